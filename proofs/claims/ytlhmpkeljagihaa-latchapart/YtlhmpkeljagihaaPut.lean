/- A struct in memory one of whose fields is written; a drawn region over several structs. -/
import Derived.Test.YtlhmpkeljagihaaConf
namespace Go.Proofs.Ytlhmpkeljagihaa
open Go.RowKit

theorem Bx.free {c : Cf} {b : Nat} {w : World} (h : Bx c b w) (k : Nat) : w.frozen? ⟨b, k, none⟩ = false := by
  unfold Bx at h
  simp [World.frozen?, h]
theorem Bx.other {c : Cf} {b : Nat} {w : World} (h : Bx c b w) {p : Addr} (hp : b ≠ p.block) (v : Value) : Bx c b (w.setCell p v) := (Below.heap_setCell w p v b hp).trans h

theorem Bx.set0 {c : Cf} {b : Nat} {w : World} (h : Bx c b w) (v : Int) : Bx { c with r := v } b (w.setCell ⟨b, 0, none⟩ (.int .i64 v)) := by
  unfold Bx at h ⊢
  show (w.heap.modify b _)[b]? = _
  rw [Array.getElem?_modify, if_pos rfl, h]
  rfl
theorem Bx.set1 {c : Cf} {b : Nat} {w : World} (h : Bx c b w) (v : Int) : Bx { c with o := v } b (w.setCell ⟨b, 1, none⟩ (.int .i64 v)) := by
  unfold Bx at h ⊢
  show (w.heap.modify b _)[b]? = _
  rw [Array.getElem?_modify, if_pos rfl, h]
  rfl
theorem Bx.set2 {c : Cf} {b : Nat} {w : World} (h : Bx c b w) (v : Int) : Bx { c with s := v } b (w.setCell ⟨b, 2, none⟩ (.int .i64 v)) := by
  unfold Bx at h ⊢
  show (w.heap.modify b _)[b]? = _
  rw [Array.getElem?_modify, if_pos rfl, h]
  rfl
theorem Bx.set3 {c : Cf} {b : Nat} {w : World} (h : Bx c b w) (v : Int) : Bx { c with d := v } b (w.setCell ⟨b, 3, none⟩ (.int .i64 v)) := by
  unfold Bx at h ⊢
  show (w.heap.modify b _)[b]? = _
  rw [Array.getElem?_modify, if_pos rfl, h]
  rfl
theorem Bx.set4 {c : Cf} {b : Nat} {w : World} (h : Bx c b w) (v : Int) : Bx { c with t := v } b (w.setCell ⟨b, 4, none⟩ (.int .i64 v)) := by
  unfold Bx at h ⊢
  show (w.heap.modify b _)[b]? = _
  rw [Array.getElem?_modify, if_pos rfl, h]
  rfl
theorem Bx.set5 {c : Cf} {b : Nat} {w : World} (h : Bx c b w) (v : Int) : Bx { c with l := v } b (w.setCell ⟨b, 5, none⟩ (.int .i64 v)) := by
  unfold Bx at h ⊢
  show (w.heap.modify b _)[b]? = _
  rw [Array.getElem?_modify, if_pos rfl, h]
  rfl
theorem Bx.set6 {c : Cf} {b : Nat} {w : World} (h : Bx c b w) (v : Int) : Bx { c with g := v } b (w.setCell ⟨b, 6, none⟩ (.int .i64 v)) := by
  unfold Bx at h ⊢
  show (w.heap.modify b _)[b]? = _
  rw [Array.getElem?_modify, if_pos rfl, h]
  rfl
theorem Bx.set7 {c : Cf} {b : Nat} {w : World} (h : Bx c b w) (v : Int) : Bx { c with k := v } b (w.setCell ⟨b, 7, none⟩ (.int .i64 v)) := by
  unfold Bx at h ⊢
  show (w.heap.modify b _)[b]? = _
  rw [Array.getElem?_modify, if_pos rfl, h]
  rfl
theorem Bx.set8 {c : Cf} {b : Nat} {w : World} (h : Bx c b w) (v : Int) : Bx { c with u := v } b (w.setCell ⟨b, 8, none⟩ (.int .i64 v)) := by
  unfold Bx at h ⊢
  show (w.heap.modify b _)[b]? = _
  rw [Array.getElem?_modify, if_pos rfl, h]
  rfl
theorem Bx.set9 {c : Cf} {b : Nat} {w : World} (h : Bx c b w) (v : Int) : Bx { c with e := v } b (w.setCell ⟨b, 9, none⟩ (.int .i64 v)) := by
  unfold Bx at h ⊢
  show (w.heap.modify b _)[b]? = _
  rw [Array.getElem?_modify, if_pos rfl, h]
  rfl
theorem Bx.set10 {c : Cf} {b : Nat} {w : World} (h : Bx c b w) (v : Int) : Bx { c with i := v } b (w.setCell ⟨b, 10, none⟩ (.int .i64 v)) := by
  unfold Bx at h ⊢
  show (w.heap.modify b _)[b]? = _
  rw [Array.getElem?_modify, if_pos rfl, h]
  rfl
theorem Bx.set11 {c : Cf} {b : Nat} {w : World} (h : Bx c b w) (v : Int) : Bx { c with p := v } b (w.setCell ⟨b, 11, none⟩ (.int .i64 v)) := by
  unfold Bx at h ⊢
  show (w.heap.modify b _)[b]? = _
  rw [Array.getElem?_modify, if_pos rfl, h]
  rfl

/-- The worlds behind w0 in which S holds. -/
structure Wc (S : World → Prop) (w0 : World) where
  w : World
  ok : S w
  bel : Below w0.heap.size w0 w
theorem Wc.call {S : World → Prop} {w0 : World} (hs : ∀ w w', S w → Below w.heap.size w w' → S w') {x : Wc S w0} {f : FuncId} {args : Array Value} {v : Value}
    (h : Calls Try.prog f args x.w fun e w' => e = .returned v ∧ Below x.w.heap.size x.w w') : Calls Try.prog f args x.w fun e w'' => e = .returned v ∧ ∃ y : Wc S w0, w'' = y.w :=
  h.mono fun _ w' ⟨he, hb⟩ => ⟨he, ⟨w', hs _ _ x.ok hb, below_then x.bel hb⟩, rfl⟩
theorem wp_region_wc {S : World → Prop} {w0 : World} {id : Nat} {Q : Exit → Act → World → Prop} {a : Act} {w : World} {l : List Oper} (hx : S w.drew) (hl : Below w0.heap.size w0 w) (hm : Try.prog.follows .mixedOrders = true) (hB : Region.lexB .any l.toArray = true)
    (h : wpQuiet Try.prog l.toArray (fun w' => ∃ x : Wc S w0, w' = x.w) (fun a' => ∀ w', (∃ x : Wc S w0, w' = x.w) → Q .normal a' w') l a) : (Code.region id l.toArray true).wp Try.prog Q a w :=
  wp_region_quiet (C := fun w' => ∃ x : Wc S w0, w' = x.w) hm hB ⟨⟨w.drew, hx, hl.drew⟩, rfl⟩ (by simpa using h)
/-- Two structs. -/
def Two (c d : Cf) (b b' : Nat) (w : World) : Prop := Bx c b w ∧ Bx d b' w
theorem Two.next {c d : Cf} {b b' : Nat} (w w' : World) (h : Two c d b b' w) (hb : Below w.heap.size w w') : Two c d b b' w' := ⟨h.1.next hb, h.2.next hb⟩

theorem Two.cells {c d : Cf} {b b' : Nat} {w0 : World} : ((∀ x : Wc (Two c d b b') w0, x.w.cell? ⟨b, 0, none⟩ = some (.int .i64 c.r)) ∧ (∀ x : Wc (Two c d b b') w0, x.w.cell? ⟨b, 1, none⟩ = some (.int .i64 c.o)) ∧ (∀ x : Wc (Two c d b b') w0, x.w.cell? ⟨b, 2, none⟩ = some (.int .i64 c.s)) ∧ (∀ x : Wc (Two c d b b') w0, x.w.cell? ⟨b, 3, none⟩ = some (.int .i64 c.d)) ∧ (∀ x : Wc (Two c d b b') w0, x.w.cell? ⟨b, 4, none⟩ = some (.int .i64 c.t)) ∧ (∀ x : Wc (Two c d b b') w0, x.w.cell? ⟨b, 5, none⟩ = some (.int .i64 c.l)) ∧ (∀ x : Wc (Two c d b b') w0, x.w.cell? ⟨b, 6, none⟩ = some (.int .i64 c.g)) ∧ (∀ x : Wc (Two c d b b') w0, x.w.cell? ⟨b, 7, none⟩ = some (.int .i64 c.k)) ∧ (∀ x : Wc (Two c d b b') w0, x.w.cell? ⟨b, 8, none⟩ = some (.int .i64 c.u)) ∧ (∀ x : Wc (Two c d b b') w0, x.w.cell? ⟨b, 9, none⟩ = some (.int .i64 c.e)) ∧ (∀ x : Wc (Two c d b b') w0, x.w.cell? ⟨b, 10, none⟩ = some (.int .i64 c.i)) ∧ (∀ x : Wc (Two c d b b') w0, x.w.cell? ⟨b, 11, none⟩ = some (.int .i64 c.p))) ∧ ((∀ x : Wc (Two c d b b') w0, x.w.cell? ⟨b', 0, none⟩ = some (.int .i64 d.r)) ∧ (∀ x : Wc (Two c d b b') w0, x.w.cell? ⟨b', 1, none⟩ = some (.int .i64 d.o)) ∧ (∀ x : Wc (Two c d b b') w0, x.w.cell? ⟨b', 2, none⟩ = some (.int .i64 d.s)) ∧ (∀ x : Wc (Two c d b b') w0, x.w.cell? ⟨b', 3, none⟩ = some (.int .i64 d.d)) ∧ (∀ x : Wc (Two c d b b') w0, x.w.cell? ⟨b', 4, none⟩ = some (.int .i64 d.t)) ∧ (∀ x : Wc (Two c d b b') w0, x.w.cell? ⟨b', 5, none⟩ = some (.int .i64 d.l)) ∧ (∀ x : Wc (Two c d b b') w0, x.w.cell? ⟨b', 6, none⟩ = some (.int .i64 d.g)) ∧ (∀ x : Wc (Two c d b b') w0, x.w.cell? ⟨b', 7, none⟩ = some (.int .i64 d.k)) ∧ (∀ x : Wc (Two c d b b') w0, x.w.cell? ⟨b', 8, none⟩ = some (.int .i64 d.u)) ∧ (∀ x : Wc (Two c d b b') w0, x.w.cell? ⟨b', 9, none⟩ = some (.int .i64 d.e)) ∧ (∀ x : Wc (Two c d b b') w0, x.w.cell? ⟨b', 10, none⟩ = some (.int .i64 d.i)) ∧ (∀ x : Wc (Two c d b b') w0, x.w.cell? ⟨b', 11, none⟩ = some (.int .i64 d.p))) := by
  refine ⟨⟨?_, ?_, ?_, ?_, ?_, ?_, ?_, ?_, ?_, ?_, ?_, ?_⟩, ⟨?_, ?_, ?_, ?_, ?_, ?_, ?_, ?_, ?_, ?_, ?_, ?_⟩⟩
  all_goals
    intro x
    obtain ⟨a0, a1, a2, a3, a4, a5, a6, a7, a8, a9, a10, a11⟩ := x.ok.1.cells
    obtain ⟨e0, e1, e2, e3, e4, e5, e6, e7, e8, e9, e10, e11⟩ := x.ok.2.cells
    assumption
end Go.Proofs.Ytlhmpkeljagihaa
