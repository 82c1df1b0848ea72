/- Few: at most 200 instructions of at most 100 numbers. -/
import Derived.Test.YtdhfpfkcbcgnaaaOpen
namespace Go.Proofs.Ytdhfpfkcbcgnaaa
open Go.RowKit

theorem ls_count {B : Nat} {w : World} {a : Option Addr} {n c : Nat} {l : List Int} (h : Ls B w (.slice a n c) l) : l.length = n := by
  obtain ⟨_, _, _, e, _, _, _, h⟩ := h
  cases e
  exact h.1
set_option maxRecDepth 100000 in
theorem few_any (ps : List In) (v : Value) (w : World) (hp : Ps w.heap.size w v ps) :
    Calls Try.prog 10 #[v] w fun e w' => ∃ b, e = .returned (.bool b) ∧ (b = true → ps.length ≤ 200 ∧ ∀ x ∈ ps, x.l.length ≤ 100) ∧ w' = w := by
  have hmax : maxLen = 9223372036854775807 := rfl
  obtain ⟨a, cap, rfl, h1, h2, h3⟩ := hp
  obtain ⟨n, hn⟩ : ∃ n, n = ps.length := ⟨_, rfl⟩
  rw [← hn] at h1 ⊢
  have hnl : (n : Int) ≤ 9223372036854775807 := by omega
  replace hn := hide hn
  replace h3 := hide h3
  go_enter Try.func10, Try.ntmps10
  go_wp2_with fail
  go_loopw [3] (fun i wr => ∃ k : Nat, k ≤ n ∧ k ≤ 200 ∧ i = .int .i64 k ∧ wr = w ∧ ∀ j, j < k → (ps.getD j z0).l.length ≤ 100) (fun i _ => n - (RowKit.intOf i).toNat)
  case atStart => exact ⟨0, Nat.zero_le _, Nat.zero_le _, rfl, rfl, fun j hj => absurd hj (Nat.not_lt_zero _)⟩
  case round =>
    obtain ⟨k, hk, hk2, rfl, rfl, hall⟩ := hrel
    replace hall := hide hall
    by_cases hlt : k < n
    · have kd : decide ((k : Int) < (n : Int)) = true := decide_eq_true (by omega)
      have kl : (k : Int) < (n : Int) := by omega
      by_cases h200 : k < 200
      · have kd2 : decide ((k : Int) < 200) = true := decide_eq_true (by omega)
        rcases unhide h3 with h0 | ⟨b, off, rfl, hbB, hc⟩
        · have := unhide hn; omega
        have hI := hc k (by have := unhide hn; omega)
        obtain ⟨x, hxx⟩ : ∃ x, ps.getD k z0 = x := ⟨_, rfl⟩
        rw [hxx] at hI
        obtain ⟨c0, c1, c2, c3, u0, c4, hu⟩ := hI
        obtain ⟨ua, ul, uc, rfl⟩ : ∃ ua ul uc, u0 = .slice ua ul uc := by obtain ⟨ua, ul, uc, e, _⟩ := hu; exact ⟨ua, ul, uc, e⟩
        have hul := hide (ls_count hu)
        replace hc := hide hc
        replace hxx := hide hxx
        clear hu
        by_cases hbig : 100 < ul
        · have dg : decide ((100 : Int) < (ul : Int)) = true := decide_eq_true (by omega)
          go_wp2
          go_ret
          exact ⟨false, rfl, (fun e => by cases e), rfl⟩
        · have dg : decide ((100 : Int) < (ul : Int)) = false := decide_eq_false (by omega)
          go_wp2
          go_roundw
          case rel =>
            refine ⟨k + 1, by omega, by omega, by go_num, trivial, fun j hj => ?_⟩
            by_cases hj2 : j < k
            · exact unhide hall j hj2
            · obtain rfl : j = k := by omega
              rw [unhide hxx, unhide hul]
              omega
          case measure => first | omega | (simp; omega) | (simp [RowKit.intOf]; omega)
      · have kd2 : decide ((k : Int) < 200) = false := decide_eq_false (by omega)
        have dn : decide ((n : Int) ≤ 200) = false := decide_eq_false (by omega)
        go_wp2
        go_ret
        exact ⟨false, rfl, (fun e => by cases e), rfl⟩
    · have kd : decide ((k : Int) < (n : Int)) = false := decide_eq_false (by omega)
      obtain rfl : k = n := by omega
      have dn : decide ((k : Int) ≤ 200) = true := decide_eq_true (by omega)
      go_wp2
      go_ret
      refine ⟨true, rfl, fun _ => ⟨by have := unhide hn; omega, fun x hx => ?_⟩, rfl⟩
      obtain ⟨j, hj, rfl⟩ := List.getElem_of_mem hx
      have := unhide hall j (by have := unhide hn; omega)
      simpa [hj] using this
end Go.Proofs.Ytdhfpfkcbcgnaaa
