/- slices.Backward over a table's rows: from the last one down. -/
import Derived.RangeFuncNested
import Derived.RangeFuncBound
import Derived.RangeFuncCalls
import Derived.RangeFuncLeaves
import Derived.Shelf.Abstract
import Derived.Shelf.RegionOpen
import Derived.WalkKit
import Derived.OwnWalkIn
import Derived.TacticsInMore
import Derived.LoopNIn
import Derived.LoopIn
import Derived.Test.YtmdbmkekdpbliaaTaba
namespace Go.Proofs.Ytmdbmkekdpbliaa
open Go.RowKit Go.Shelf

attribute [local go_sem] Oper.semAt_some

/-- The rows of pointers and the boxes of slices of rows stay. -/
def Kr (W W' : World) : Prop := ∀ (k : Nat) (cur : Array Value) (t : TypeId), W.heap[k]? = some (.cells cur t (0, 0)) → t = 95 ∨ t = 56 → W'.heap[k]? = some (.cells cur t (0, 0))
theorem kr_refl (W : World) : Kr W W := fun _ _ _ h _ => h
theorem kr_t {A B C : World} (h : Kr A B) (k : Kr B C) : Kr A C := fun j c t hj ht => k j c t (h j c t hj ht) ht
theorem kr_b (W : World) (l : Nat) (o o' : Obj) (hl : W.heap[l]? = some o) (ho : o.isCells = false) : Kr W (W.putObj l o') := fun j c t hj _ => by
  refine (World.putObj_heap_other (fun e => ?_)).trans hj
  subst e
  rw [hl] at hj
  cases hj
  cases ho
theorem kr_alloc (W : World) (o : Obj) : Kr W (W.alloc o) := fun j _ _ hj _ => ((below_new W o).block j (heap_lt hj)).trans hj
/-- The places from N - 1 down to m. -/
def dn (N m : Nat) : List Nat := (List.range (N - m)).map (fun j => N - 1 - j)
theorem dn_step {N m : Nat} (hm : m < N) : dn N m = dn N (m + 1) ++ [m] := by
  unfold dn
  rw [show N - m = (N - (m + 1)) + 1 by omega, List.range_succ, List.map_append]
  congr 1
  simp
  omega
theorem dn_len (N m : Nat) : (dn N m).length = N - m := by simp [dn]
theorem dn_none (N : Nat) : dn N N = [] := by simp [dn]
theorem dn_lt {N m x : Nat} (h : x ∈ dn N m) : x < N := by
  unfold dn at h
  obtain ⟨j, hj, rfl⟩ := List.mem_map.1 h
  have := List.mem_range.1 hj
  omega
set_option maxRecDepth 100000 in
set_option maxHeartbeats 2000000 in
theorem back1_in (F : Fence) (n : Nat) (hF : F.fn 86) (hro : F.round = none) (hn : 1 ≤ n) (l Bs rb N : Nat) (lb : Nat → Nat) (hN : N ≤ 10000) (J Jx : List Nat → World → Prop)
    (hY : ∀ pre x W, x < N → J pre W → pre.length < N → YieldAt F (n - 1) Try.prog l #[.int .i64 ((x : Nat) : Int), .agg #[.pointer (some ⟨lb x, 0, none⟩)]] W fun e W' =>
      (e = .returned (.bool true) ∧ J (pre ++ [x]) W' ∧ Kr W W') ∨ (e = .returned (.bool false) ∧ Jx (pre ++ [x]) W'))
    (W : World) (hBs : W.heap[Bs]? = some (.cells #[.slice (some ⟨rb, 0, none⟩) N N] 56 (0, 0))) (hrow : ∃ cur, W.heap[rb]? = some (.cells cur 95 (0, 0)) ∧ ∀ i, i < N → cur[i]? = some (.pointer (some ⟨lb i, 0, none⟩))) (h0 : J [] W) :
    CallsIn F n Try.prog 86 #[.func (.yield l) #[] #[], .pointer (some ⟨Bs, 0, none⟩)] W fun e W' => (∃ v, e = .returned v) ∧
      ((∃ ys, ys = dn N 0 ∧ J ys W') ∨ (∃ pre, True ∧ Jx pre W')) := by
  have cB : ∀ W', Kr W W' → W'.cell? ⟨Bs, 0, none⟩ = some (.slice (some ⟨rb, 0, none⟩) N N) := fun W' hk => by
    have := hk Bs _ 56 hBs (.inr rfl)
    simp [World.cell?, this]
  have cR : ∀ W', Kr W W' → ∀ i, i < N → W'.cell? ⟨rb, i, none⟩ = some (.pointer (some ⟨lb i, 0, none⟩)) := fun W' hk i hi => by
    obtain ⟨cur, h1, h2⟩ := hrow
    have := hk rb _ 95 h1 (.inl rfl)
    simp [World.cell?, this, h2 i hi]
  have c0 := cB W (kr_refl W)
  refine callsIn_of_wp Try.func86 rfl hF ?_ hro
  simp only [Try.ntmps86, List.size_toArray, List.length_cons, List.length_nil, Nat.reduceAdd, Nat.reduceSub, Array.replicate_succ, Array.replicate_zero, List.push_toArray, List.append_toArray, List.nil_append, List.cons_append]
  gi_wp2
  gi_loopw [3] (fun i wr => ∃ m : Nat, m ≤ N ∧ i = .int .i64 ((m : Int) - 1) ∧ J (dn N m) wr ∧ Kr W wr)
    (fun i _ => (intOf i + 1).toNat)
  case atStart => exact ⟨N, Nat.le_refl _, rfl, by rw [dn_none]; exact h0, kr_refl _⟩
  case round =>
    obtain ⟨m, hm, rfl, hJs, hk⟩ := hrel
    rcases m with _ | m
    · gi_wp2
      go_end0
      exact ⟨⟨_, rfl⟩, .inl ⟨_, rfl, hJs⟩⟩
    · have e1 : ((m + 1 : Nat) : Int) - 1 = (m : Int) := by omega
      rw [e1]
      have b1 := cB _ hk
      have b2 := cR _ hk m (by omega)
      have hmN : (m : Int) < (N : Int) := by omega
      have hmN2 : m < N := by omega
      obtain ⟨fn, tmps, assign, body, hy, hR⟩ := hY _ m _ hmN2 hJs (by rw [dn_len]; omega)
      gi_wp2
      refine hR.mono ?_
      rintro e W3 (⟨rfl, hJ3, hk3⟩ | ⟨rfl, hJx3⟩)
      · gi_wp2
        go_roundw
        case rel => exact ⟨m, by omega, by go_num, by rw [dn_step hmN2]; exact hJ3, kr_t hk hk3⟩
        case measure => simp [intOf] <;> omega
      · gi_wp2
        refine bodyPost_ret (results_none rfl _ _ _) rfl ?_
        exact ⟨⟨_, rfl⟩, .inr ⟨_, trivial, hJx3⟩⟩
set_option maxHeartbeats 1000000 in
/-- slices.Backward(s): the slice value is boxed; the function value captures the box. -/
theorem back_in (F : Fence) (n : Nat) (hF : F.fn 65) (hro : F.round = none) (a : Option Addr) (len cap : Nat) (w : World) :
    CallsIn F n Try.prog 65 #[.slice a len cap] w fun e w' => e = .returned (.func (.func 86) #[] #[.pointer (some ⟨w.heap.size, 0, none⟩)]) ∧ w' = w.alloc (.cells #[.slice a len cap] 56) := by
  refine callsIn_of_wp Try.func65 rfl hF ?_ hro
  simp only [Try.ntmps65, List.size_toArray, List.length_cons, List.length_nil, Nat.reduceAdd, Nat.reduceSub, Array.replicate_succ, Array.replicate_zero, List.push_toArray, List.append_toArray, List.nil_append, List.cons_append]
  gi_wp2
  go_ret
  exact ⟨rfl, rfl⟩
theorem back_stops (F : Fence) (n : Nat) (hF : F.fn 86) (hro : F.round = none) (hn : 1 ≤ n) (Bs rb N : Nat) (lb : Nat → Nat) (hN : N ≤ 10000) (w : World)
    (hBs : w.heap[Bs]? = some (.cells #[.slice (some ⟨rb, 0, none⟩) N N] 56 (0, 0))) (hrow : ∃ cur, w.heap[rb]? = some (.cells cur 95 (0, 0)) ∧ ∀ i, i < N → cur[i]? = some (.pointer (some ⟨lb i, 0, none⟩))) :
    SeqStopsK F n Try.prog 86 #[.pointer (some ⟨Bs, 0, none⟩)] (fun x : { x : Nat // x < N } => #[Value.int .i64 (x.1 : Int), .agg #[.pointer (some ⟨lb x.1, 0, none⟩)]]) Kr (fun ys => ys.map (·.1) = dn N 0) (fun _ => True) N w := fun l J Jx W hW _ _ hY h0 => by
  obtain ⟨cur, h1, h2⟩ := hrow
  refine (back1_in F n hF hro hn l Bs rb N lb hN (fun pre W => ∃ p : List { x : Nat // x < N }, p.map (·.1) = pre ∧ J p W) (fun pre W => ∃ p : List { x : Nat // x < N }, p.map (·.1) = pre ∧ Jx p W) ?_ W ((hW.block _ (heap_lt hBs)).trans hBs) ⟨cur, (hW.block _ (heap_lt h1)).trans h1, h2⟩ ⟨[], rfl, h0⟩).mono ?_
  · rintro pre x W1 hx ⟨p, rfl, hp⟩ hl
    refine (hY p ⟨x, hx⟩ W1 hp (by simpa using hl)).mono ?_
    rintro e W' (⟨e1, e2, e3⟩ | ⟨e1, e2⟩)
    · exact .inl ⟨e1, ⟨_, by simp, e2⟩, e3⟩
    · exact .inr ⟨e1, ⟨_, by simp, e2⟩⟩
  · rintro e W' ⟨he, ⟨ys, rfl, p, hp, hJ⟩ | ⟨pre, _, p, _, hJ⟩⟩
    · exact ⟨he, .inl ⟨p, hp, hJ⟩⟩
    · exact ⟨he, .inr ⟨p, trivial, hJ⟩⟩
end Go.Proofs.Ytmdbmkekdpbliaa
