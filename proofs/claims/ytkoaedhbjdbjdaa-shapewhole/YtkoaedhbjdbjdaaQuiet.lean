/- A region that draws its order, whose callees make memory but turn nothing that lies: ONE walk in the order of the text, over the class of the worlds in which the struct lies where it lay and all that was is as it was. -/
import Derived.Test.YtkoaedhbjdbjdaaConf
namespace Go.Proofs.Ytkoaedhbjdbjdaa
open Go.RowKit

/-- The worlds behind w0 in which c lies in block b. -/
structure Wd (c : Cf) (b : Nat) (w0 : World) where
  w : World
  bx : Bx c b w
  bel : Below w0.heap.size w0 w

theorem Wd.cells {c : Cf} {b : Nat} {w0 : World} :
    (∀ x : Wd c b w0, x.w.cell? ⟨b, 0, none⟩ = some (.int .i64 c.r)) ∧ (∀ x : Wd c b w0, x.w.cell? ⟨b, 1, none⟩ = some (.int .i64 c.o)) ∧ (∀ x : Wd c b w0, x.w.cell? ⟨b, 2, none⟩ = some (.int .i64 c.s)) ∧
    (∀ x : Wd c b w0, x.w.cell? ⟨b, 3, none⟩ = some (.int .i64 c.d)) ∧ (∀ x : Wd c b w0, x.w.cell? ⟨b, 4, none⟩ = some (.int .i64 c.t)) ∧ (∀ x : Wd c b w0, x.w.cell? ⟨b, 5, none⟩ = some (.int .i64 c.l)) ∧
    (∀ x : Wd c b w0, x.w.cell? ⟨b, 6, none⟩ = some (.int .i64 c.g)) ∧ (∀ x : Wd c b w0, x.w.cell? ⟨b, 7, none⟩ = some (.int .i64 c.k)) ∧ (∀ x : Wd c b w0, x.w.cell? ⟨b, 8, none⟩ = some (.int .i64 c.u)) ∧
    (∀ x : Wd c b w0, x.w.cell? ⟨b, 9, none⟩ = some (.int .i64 c.e)) ∧ (∀ x : Wd c b w0, x.w.cell? ⟨b, 10, none⟩ = some (.int .i64 c.i)) ∧ (∀ x : Wd c b w0, x.w.cell? ⟨b, 11, none⟩ = some (.int .i64 c.p)) := by
  refine ⟨?_, ?_, ?_, ?_, ?_, ?_, ?_, ?_, ?_, ?_, ?_, ?_⟩
  all_goals
    intro x
    obtain ⟨a0, a1, a2, a3, a4, a5, a6, a7, a8, a9, a10, a11⟩ := x.bx.cells
    assumption

theorem Wd.call {c : Cf} {b : Nat} {w0 : World} {x : Wd c b w0} {f : FuncId} {args : Array Value} {v : Value}
    (h : Calls Try.prog f args x.w fun e w' => e = .returned v ∧ Below x.w.heap.size x.w w') : Calls Try.prog f args x.w fun e w'' => e = .returned v ∧ ∃ y : Wd c b w0, w'' = y.w :=
  h.mono fun _ w' ⟨he, hb⟩ => ⟨he, ⟨w', x.bx.next hb, below_then x.bel hb⟩, rfl⟩

theorem wp_region_wd {c : Cf} {b : Nat} {w0 : World} {id : Nat} {Q : Exit → Act → World → Prop} {a : Act} {w : World} {l : List Oper} (hx : Bx c b w) (hl : Below w0.heap.size w0 w) (hm : Try.prog.follows .mixedOrders = true) (hB : Region.lexB .any l.toArray = true)
    (h : wpQuiet Try.prog l.toArray (fun w' => ∃ x : Wd c b w0, w' = x.w) (fun a' => ∀ w', (∃ x : Wd c b w0, w' = x.w) → Q .normal a' w') l a) : (Code.region id l.toArray true).wp Try.prog Q a w :=
  wp_region_quiet (C := fun w' => ∃ x : Wd c b w0, w' = x.w) hm hB ⟨⟨w.drew, hx.drew, hl.drew⟩, rfl⟩ (by simpa using h)
end Go.Proofs.Ytkoaedhbjdbjdaa
