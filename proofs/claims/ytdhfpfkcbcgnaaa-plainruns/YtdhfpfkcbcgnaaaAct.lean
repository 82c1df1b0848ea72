/- read and write of a machine. -/
import Derived.Test.YtdhfpfkcbcgnaaaMach
namespace Go.Proofs.Ytdhfpfkcbcgnaaa
open Go.RowKit

def readD (s : St) (i : Nat) : St := { s with rd := s.rd ++ [((i : Int), s.h.getD i 0)] }
def writeD (s : St) (i : Nat) (v : Int) : St := { s with h := s.h.set i v, wr := s.wr ++ [((i : Int), v)] }
/-- No instruction's block is turned, and no Out's. -/
def Stay (w w' : World) : Prop := ∀ (k : Nat) (cs : Array Value) (t : TypeId) (fr : Nat × Nat), t = 44 ∨ t = 30 → w.heap[k]? = some (.cells cs t fr) → w'.heap[k]? = w.heap[k]?
theorem Stay.refl (w : World) : Stay w w := fun _ _ _ _ _ _ => rfl
theorem Stay.trans {w w' w'' : World} (h : Stay w w') (k : Stay w' w'') : Stay w w'' := fun i cs t fr ht hi => (k i cs t fr ht ((h i cs t fr ht hi).trans hi)).trans (h i cs t fr ht hi)
theorem stay_below {w w' : World} (hb : Below w.heap.size w w') : Stay w w' := fun k _ _ _ _ hk => hb.block k (heap_lt hk)
theorem Stay.next {w w' w'' : World} (h : Stay w w') (hb : Below w'.heap.size w' w'') : Stay w w'' := h.trans (stay_below hb)
theorem Stay.set {w w' : World} (h : Stay w w') {g i : Nat} {v : Value} (hg : ∀ cs t fr, t = 44 ∨ t = 30 → w'.heap[g]? ≠ some (.cells cs t fr)) : Stay w (w'.setCell ⟨g, i, none⟩ v) := fun k cs t fr ht hk => by
  have e := h k cs t fr ht hk
  exact (set_other _ _ _ _ _ (fun e2 => hg cs t fr ht (by rw [← e2]; exact e.trans hk))).trans e
theorem Stay.grown {w w' w'' : World} (h : Stay w w') {r : Option Nat} (hg : w'.grownBy w'' r) (hr : ∀ g, r = some g → ∀ cs t fr, t = 44 ∨ t = 30 → w'.heap[g]? ≠ some (.cells cs t fr)) : Stay w w'' := fun k cs t fr ht hk => by
  have e := h k cs t fr ht hk
  exact (hg.block k (heap_lt (e.trans hk)) (fun e2 => hr k e2.symm cs t fr ht (e.trans hk))).trans e
theorem mb44 {c : Cf} {hv : Value} {e : Int} {rv dv wv : Value} {b : Nat} {w : World} (h : Mb c hv e rv dv wv b w) : ∀ cs t fr, t = 44 ∨ t = 30 → w.heap[b]? ≠ some (.cells cs t fr) := fun cs t fr ht k => by
  unfold Mb at h
  rw [h] at k
  rcases ht with rfl | rfl <;> cases k
theorem rb44 {g : Nat} {l : List Int} {w : World} (h : Rb g l w) : ∀ cs t fr, t = 44 ∨ t = 30 → w.heap[g]? ≠ some (.cells cs t fr) := fun cs t fr ht k => by
  obtain ⟨_, h, _⟩ := h
  rw [h] at k
  rcases ht with rfl | rfl <;> cases k
theorem row44 {w : World} {B n : Nat} {v : Value} {xs : List Value} (h : w.ownsRow B 41 2 v n xs) : ∀ g, v.ownBlock = some g → ∀ cs t fr, t = 44 ∨ t = 30 → w.heap[g]? ≠ some (.cells cs t fr) := fun g hg cs t fr ht k => by
  rcases h.2 with ⟨rfl, _⟩ | ⟨g', cap, cur, rfl, _, h', _⟩
  · cases hg
  · have : g' = g := by simpa [Value.ownBlock] using hg
    subst this
    rw [h'] at k
    rcases ht with rfl | rfl <;> cases k
theorem acc_info : ∃ i, Try.prog.info? 41 = some i ∧ i.zero = some (.agg #[.int .i64 0, .int .i64 0]) ∧ i.size = 2 ∧ i.bytes = 16 := by
  obtain ⟨i, h, h1, h2, h3⟩ := info_parts elAcc.inf
  exact ⟨i, h, h1, h2, h3⟩
theorem acc_news (w : World) (a v : Int) (N : Nat) (hN : N = w.heap.size) : ∀ j u, ([.int .i64 a, .int .i64 v] : List Value)[j]? = some u → (w.alloc (.cells #[.int .i64 a, .int .i64 v] 41)).cell? ((⟨N, 0, none⟩ : Addr).add j) = some u := by
  subst hN
  exact World.news_of_block (cs := #[.int .i64 a, .int .i64 v]) (heap_alloc_new w _)
theorem acc_one (a v : Int) : ∀ u ∈ ([.int .i64 a, .int .i64 v] : List Value), u.oneCell' = true := by
  intro u hu
  simp only [List.mem_cons, List.not_mem_nil, or_false] at hu
  rcases hu with rfl | rfl <;> rfl

set_option maxRecDepth 100000 in
set_option maxHeartbeats 1000000 in
theorem write_any {B : Nat} {c : Cf} {s : St} {b gh gr ch : Nat} {e : Int} {dv wv : Value} {w : World} (h : Ma B c s b gh gr ch e dv wv w) (i : Nat) (hi : i < s.h.length) (v : Int) (hl : s.wr.length ≤ 100) :
    Calls Try.prog 47 #[.pointer (some ⟨b, 0, none⟩), .int .i64 i, .int .i64 v] w fun r w' => ∃ wv', r = .returned (.tuple #[]) ∧ Ma B c (writeD s i v) b gh gr ch e dv wv' w' ∧ Below B w w' ∧ Stay w w' := by
  obtain ⟨i0, hi0, hz0, hz1, hz2⟩ := acc_info
  have hmax : maxLen = 9223372036854775807 := rfl
  have h16 := h.blk.c16
  obtain ⟨n, hn⟩ : ∃ n, s.h.length = n := ⟨_, rfl⟩
  obtain ⟨m, hm⟩ : ∃ m, s.wr.length = m := ⟨_, rfl⟩
  have b1 := below_new w (.cells #[.int .i64 i, .int .i64 v] 41)
  have h1 := h.next b1
  have low := h.low
  have H1 := hide h1
  have il : (i : Int) < (n : Int) := by omega
  have nws := hide (acc_news w i v w.heap.size rfl)
  have hown0 := h1.wr
  have ne1 := h.hp.ne50 h.blk
  have ne2 := Ne.symm ne1
  rw [hm] at hown0
  replace hown0 := hide hown0
  clear h h1
  replace hn := hide hn
  replace hm := hide hm
  replace b1 := hide b1
  go_enter Try.func47, Try.ntmps47
  go_wp2_with (at_builtin; refine wpList_append_lies _ (by rfl) _ _ _ (by rfl) B 41 i0 _ 2 16 Try.underlying28 hi0 hz0 hz1 hz2 rfl (by omega) wv m _ (by rfl) (unhide hown0) _ 1 1 [.int .i64 i, .int .i64 v] (by rfl) (by rfl) (unhide nws) (acc_one _ _) (by omega) (by have := unhide hm; omega) (by have := unhide hm; omega) (by simp; omega) _ rfl ?_; intro g cap w1 hown hgrow hat hlt; have hb1 := (unhide H1).blk.keep (hgrow.block _ (unhide H1).blk.lt (mbNeRow (unhide H1).blk (unhide H1).wr)); have hr1 := (unhide H1).hp.keep (hgrow.block _ (unhide H1).hp.lt ((unhide H1).hp.neRow (unhide H1).wr)); have f1 := hb1.free 16; have x1 := hb1.c16; have x2 := hb1.c12; rw [unhide hn] at x2; have f3 := hr1.free i; have x3 := hr1.cell hi; replace hb1 := hide hb1; replace hr1 := hide hr1; replace hown := hide hown; replace hgrow := hide hgrow; replace hat := hide hat; clear hlt)
  go_end0
  refine ⟨.slice (some ⟨g, 0, none⟩) (m + 1) cap, rfl, ?_, ?_, ?_⟩
  · have hw := (unhide H1).addWrite (p := ((i : Int), v)) (g := g) (cap := cap) (by rw [unhide hm]; exact unhide hown) (unhide hgrow) (unhide hat)
    rw [unhide hm] at hw
    exact hw.setHeap hi v
  · have q := ((Below.refl B _).alloc low (.cells #[.int .i64 i, .int .i64 v] 41)).grown (unhide hgrow) (Nat.le_trans low (unhide b1).size) (fun k hk => ((unhide H1).wr.lt k hk).1)
    exact (q.setCell (p := ⟨b, 16, none⟩) (unhide H1).bB _).setCell (p := ⟨gh, i, none⟩) (unhide H1).hB _
  · exact (((stay_below (unhide b1)).grown (unhide hgrow) (row44 (unhide H1).wr)).set (mb44 (unhide hb1))).set (rb44 ((unhide hr1).keep (set_other _ _ _ _ _ ne2)))

set_option maxRecDepth 100000 in
set_option maxHeartbeats 1000000 in
theorem read_any {B : Nat} {c : Cf} {s : St} {b gh gr ch : Nat} {e : Int} {dv wv : Value} {w : World} (h : Ma B c s b gh gr ch e dv wv w) (i : Nat) (hi : i < s.h.length) (hl : s.rd.length ≤ 100) :
    Calls Try.prog 45 #[.pointer (some ⟨b, 0, none⟩), .int .i64 i] w fun r w' => ∃ dv', r = .returned (.int .i64 (s.h.getD i 0)) ∧ Ma B c (readD s i) b gh gr ch e dv' wv w' ∧ Below B w w' ∧ Stay w w' := by
  obtain ⟨i0, hi0, hz0, hz1, hz2⟩ := acc_info
  have hmax : maxLen = 9223372036854775807 := rfl
  obtain ⟨n, hn⟩ : ∃ n, s.h.length = n := ⟨_, rfl⟩
  obtain ⟨m, hm⟩ : ∃ m, s.rd.length = m := ⟨_, rfl⟩
  obtain ⟨v, hv⟩ : ∃ v, s.h.getD i 0 = v := ⟨_, rfl⟩
  have y15 := h.blk.c15
  have y12 := h.blk.c12
  have yc := h.hp.cell hi
  rw [hv] at yc
  rw [hn] at y12
  have b1 := below_new w (.cells #[.int .i64 i, .int .i64 v] 41)
  have h1 := (h.next b1).drew
  have z15 : (w.alloc (.cells #[.int .i64 i, .int .i64 v] 41)).cell? ⟨b, 15, none⟩ = some dv := h1.blk.c15
  have low := h.low
  have H1 := hide h1
  have il : (i : Int) < (n : Int) := by omega
  have nws : Hid (∀ j u, ([.int .i64 i, .int .i64 v] : List Value)[j]? = some u → (w.alloc (.cells #[.int .i64 i, .int .i64 v] 41)).drew.cell? ((⟨w.heap.size, 0, none⟩ : Addr).add j) = some u) := hide (acc_news w i v w.heap.size rfl)
  have hown0 := h1.rd
  have ne1 := h.hp.ne50 h.blk
  rw [hm] at hown0
  replace hown0 := hide hown0
  clear h h1
  replace hn := hide hn
  replace hm := hide hm
  replace hv := hide hv
  replace b1 := hide b1
  go_enter Try.func45, Try.ntmps45
  go_wp2_with fail
  go_region_law (refine step_append_lies _ (by rfl) _ _ _ (by rfl) B 41 i0 _ 2 16 Try.underlying28 hi0 hz0 hz1 hz2 rfl (by omega) dv m _ (by rfl) (unhide hown0) _ 1 1 [.int .i64 i, .int .i64 v] (by rfl) (by rfl) (unhide nws) (acc_one _ _) (by omega) (by have := unhide hm; omega) (by have := unhide hm; omega) (by simp; omega) _ rfl ?_; intro g cap w1 hown hgrow hat hlt; have hb1 := (unhide H1).blk.keep (hgrow.block _ (unhide H1).blk.lt (mbNeRow (unhide H1).blk (unhide H1).rd)); have hr1 := (unhide H1).hp.keep (hgrow.block _ (unhide H1).hp.lt ((unhide H1).hp.neRow (unhide H1).rd)); have f1 := hb1.free 15; have x1 := hb1.c15; have x2 := hb1.c12; rw [unhide hn] at x2; have x3 := hr1.cell hi; rw [unhide hv] at x3; replace hb1 := hide hb1; replace hr1 := hide hr1; replace hown := hide hown; replace hgrow := hide hgrow; replace hat := hide hat; clear hlt)
  all_goals
    go_wp2
    go_ret
    refine ⟨.slice (some ⟨g, 0, none⟩) (m + 1) cap, ret_int (unhide hv).symm, ?_, ?_, ?_⟩
    · have hw := (unhide H1).addRead (p := ((i : Int), v)) (g := g) (cap := cap) (by rw [unhide hm]; exact unhide hown) (unhide hgrow) (unhide hat)
      rw [unhide hm] at hw
      unfold readD
      rw [unhide hv]
      exact hw
    · have q := ((Below.refl B _).alloc low (.cells #[.int .i64 i, .int .i64 v] 41)).drew.grown (unhide hgrow) (Nat.le_trans low (unhide b1).size) (fun k hk => ((unhide H1).rd.lt k hk).1)
      exact q.setCell (p := ⟨b, 15, none⟩) (unhide H1).bB _
    · exact ((stay_below (unhide b1).drew).grown (unhide hgrow) (row44 (unhide H1).rd)).set (mb44 (unhide hb1))
end Go.Proofs.Ytdhfpfkcbcgnaaa
