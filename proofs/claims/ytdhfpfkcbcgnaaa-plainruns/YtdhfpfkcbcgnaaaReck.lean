/- reckon of a machine: a sum of registers. -/
import Derived.Test.YtdhfpfkcbcgnaaaMach
import Derived.Test.YtdhfpfkcbcgnaaaEval
namespace Go.Proofs.Ytdhfpfkcbcgnaaa
open Go.RowKit

/-- What the registers l hold. -/
def regsD (r l : List Int) : List Int := l.map fun x => r.getD x.toNat 0
theorem regs_snoc {r l : List Int} {k : Nat} (h : k < l.length) : regsD r (l.take (k + 1)) = regsD r (l.take k) ++ [r.getD (l.getD k 0).toNat 0] := by
  unfold regsD
  rw [List.take_add_one, List.getElem?_eq_getElem h, List.map_append]
  simp [h]
theorem ls_seg {w : World} {v : Value} {l : List Int} (h : Ls w.heap.size w v l) : ∃ a cap, v = .slice a l.length cap ∧ l.length ≤ cap ∧ cap ≤ maxLen ∧ Calc.Seg w a l.length l := by
  obtain ⟨a, cap, e, h1, h2, _, h3⟩ := ls_len h
  refine ⟨a, cap, e, h1, h2, h3.1, ?_⟩
  rcases h3.2 with h0 | ⟨b, off, e, _, hc⟩
  · exact .inl h0
  · exact .inr ⟨b, off, e, hc⟩
theorem evalLs_any (kind : Int) (v : Value) (l : List Int) (w : World) (h : Ls w.heap.size w v l) :
    Calls Try.prog 53 #[.int .i64 kind, v] w fun e w' => e = .returned (.tuple #[.int .i64 (Calc.evalL kind l).1, .int .i64 (Calc.evalL kind l).2]) ∧ Below w.heap.size w w' := by
  obtain ⟨a, cap, rfl, h1, h2, h3⟩ := ls_seg h
  refine (Calc.eval_any kind a l.length cap l w h3 (by omega) h1).mono ?_
  rintro e w' ⟨rfl, n, rfl⟩
  exact ⟨rfl, drewN_below _ _⟩
set_option maxRecDepth 100000 in
set_option maxHeartbeats 1000000 in
theorem reckon_any {B : Nat} {c : Cf} {s : St} {b gh gr ch : Nat} {e : Int} {dv wv : Value} {w : World} (h : Ma B c s b gh gr ch e dv wv w) (kind : Int) (v : Value) (l : List Int) (hv : Ls w.heap.size w v l) (hl : l.length ≤ 8) (hr : ∀ x ∈ l, 0 ≤ x ∧ x < s.r.length) :
    Calls Try.prog 48 #[.pointer (some ⟨b, 0, none⟩), .int .i64 kind, v] w fun r w' => r = .returned (.int .i64 (Calc.evalL kind (regsD s.r l)).1) ∧ Below w.heap.size w w' := by
  obtain ⟨n, hnn⟩ : ∃ n, n = l.length := ⟨_, rfl⟩
  obtain ⟨m, hm⟩ : ∃ m, s.r.length = m := ⟨_, rfl⟩
  have hv0 := hv
  obtain ⟨a, cap, rfl, h1, h2, _, h3⟩ := ls_len hv
  have hmax : maxLen = 9223372036854775807 := rfl
  rw [← hnn] at h1 hl ⊢
  replace hnn := hide hnn
  have hnl : (n : Int) ≤ 9223372036854775807 := by omega
  replace hv0 := hide hv0
  replace hr := hide hr
  replace hm := hide hm
  have H := hide h
  clear h h3 hv
  go_enter Try.func48, Try.ntmps48
  go_wp2_with (at_make; refine wpList_mk elInt _ rfl _ _ rfl n rfl rfl (by omega) (by omega) ?_; intro w1 hown1 hb1)
  replace hown1 := hide hown1
  replace hb1 := hide hb1
  go_loopw [7, 17] (fun u i wr => ∃ (k : Nat), k ≤ n ∧ i = .int .i64 k ∧ Below w.heap.size w wr ∧ wr.ownsRow w.heap.size 3 1 u k (vals (regsD s.r (l.take k)))) (fun _ i _ => n - (RowKit.intOf i).toNat)
  case atStart => exact ⟨0, Nat.zero_le _, rfl, unhide hb1, unhide hown1⟩
  case round =>
    obtain ⟨k, hk, rfl, hb, hown⟩ := hrel
    clear hb1 hown1
    by_cases hlt : k < n
    · have kd : decide ((k : Int) < (n : Int)) = true := decide_eq_true (by omega)
      have kl : (k : Int) < (n : Int) := by omega
      have hk2 : k < l.length := by have := unhide hnn; omega
      obtain ⟨_, _, hv, _, _, _, h3⟩ := ls_len ((unhide hv0).later hb)
      cases hv
      obtain ⟨pb, po, rfl, hpb, hcell⟩ := h3.at hk2
      obtain ⟨x, hx⟩ : ∃ x, l.getD k 0 = x := ⟨_, rfl⟩
      have hmem : x ∈ l := by
        rw [← hx]
        have : l.getD k 0 = l[k] := by simp [hk2]
        rw [this]; exact List.getElem_mem hk2
      obtain ⟨x0, x1⟩ := unhide hr x hmem
      obtain ⟨j, rfl⟩ := Int.eq_ofNat_of_zero_le x0
      have hj : j < s.r.length := by omega
      rw [hx] at hcell
      have h4 := (unhide H).next hb
      have m14 := h4.blk.c14
      have mreg := h4.rg.cell hj
      rw [unhide hm] at m14
      have hjm : (j : Int) < (m : Int) := by have := unhide hm; omega
      obtain ⟨y, hy⟩ : ∃ y, s.r.getD j 0 = y := ⟨_, rfl⟩
      rw [hy] at mreg
      have hs := hide (regs_snoc (r := s.r) hk2)
      have bA := below_new wr (.cells #[.int .i64 y] 3)
      have ownA := own_next hown bA
      have gA := hide (below_then hb bA)
      have newsA := news_new wr [.int .i64 y] 3 1 1 1 wr.heap.size rfl rfl (fun q hq => by simp at hq; subst hq; rfl)
      have sA := (unhide gA).size
      replace hx := hide hx
      replace hy := hide hy
      replace ownA := hide ownA
      replace newsA := hide newsA
      clear hown h4 h3 hb bA hmem x0 x1 hj
      go_wp2_with (at_builtin; refine wpList_app elInt _ rfl _ _ rfl w.heap.size _ k (vals (regsD s.r (l.take k))) rfl (unhide ownA) _ 1 [.int .i64 y] rfl (unhide newsA) (by omega) (by omega) sA ?_; intro v6 w6 hown6 hgr6)
      have g6 := hide ((unhide gA).grown hgr6 sA (fun q hq => ((unhide ownA).lt q hq).1))
      have hown7 : w6.ownsRow w.heap.size 3 1 v6 (k + 1) (vals (regsD s.r (l.take (k + 1)))) := by
        rw [unhide hs, unhide hx, Int.toNat_natCast, unhide hy]
        unfold vals at hown6 ⊢; rw [List.map_append]; exact hown6
      replace hown7 := hide hown7
      clear hown6 hgr6 newsA ownA gA
      go_wp2
      go_roundw
      case rel => exact ⟨k + 1, by omega, by go_num, unhide g6, unhide hown7⟩
      case measure => first | omega | (simp; omega) | (simp [RowKit.intOf]; omega)
    · have kd : decide ((k : Int) < (n : Int)) = false := decide_eq_false (by omega)
      have el : l.take k = l := List.take_of_length_le (by have := unhide hnn; omega)
      rw [el] at hown
      have kE := evalLs_any kind _ _ wr (own_ls hown)
      replace hb := hide hb
      replace hown := hide hown
      replace el := hide el
      go_wp2_with fail
      refine kE.mono ?_
      rintro e2 w3 ⟨rfl, b3⟩
      have g3 := hide (below_then (unhide hb) b3)
      clear b3 kE
      go_wp2
      go_ret
      exact ⟨rfl, unhide g3⟩
end Go.Proofs.Ytdhfpfkcbcgnaaa
