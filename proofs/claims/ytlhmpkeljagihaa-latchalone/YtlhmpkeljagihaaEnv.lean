/- A configuration, a heap of words and latches that lie side by side. -/
import Derived.Test.YtlhmpkeljagihaaFirst
namespace Go.Proofs.Ytlhmpkeljagihaa
open Go.RowKit

/-- The words and the count. -/
structure Mm where
  f : Nat → Int
  c : Int
def m0 : Mm := ⟨fun _ => 0, 0⟩
def memOf (s : St) : Mm := ⟨s.f, s.c⟩
/-- L stepped k times over m: itself, the words behind it, has it got it? -/
def itL (k : Nat) (L : LS) (m : Mm) : LS := (itS k ⟨L, m.f, m.c⟩).L
def itM (k : Nat) (L : LS) (m : Mm) : Mm := memOf (itS k ⟨L, m.f, m.c⟩)
def gotB (k : Nat) (L : LS) (m : Mm) : Bool := (itL k L m).p == 9

/-- A configuration in block B, a heap of words in cb and r; nothing that lay in W has turned. -/
structure Env (W : World) (c : Cf) (B cb r n : Nat) (m : Mm) (w : World) : Prop where
  x : Bx c B w
  s : Cel 70 w cb r n m.f m.c
  b : Below W.heap.size W w
  l0 : W.heap.size ≤ B
  l1 : W.heap.size ≤ cb
  l2 : W.heap.size ≤ r
  n1 : B ≠ cb
  n2 : B ≠ r
/-- The block b is none of these. -/
structure Own (W : World) (B cb r b : Nat) : Prop where
  l : W.heap.size ≤ b
  n0 : b ≠ B
  n1 : b ≠ cb
  n2 : b ≠ r
theorem Env.next {W : World} {c : Cf} {B cb r n : Nat} {m : Mm} {w w' : World} (h : Env W c B cb r n m w) (hb : Below w.heap.size w w') : Env W c B cb r n m w' :=
  ⟨h.x.next hb, h.s.later hb h.s.lt h.s.rlt, below_then h.b hb, h.l0, h.l1, h.l2, h.n1, h.n2⟩
theorem Env.drew {W : World} {c : Cf} {B cb r n : Nat} {m : Mm} {w : World} (h : Env W c B cb r n m w) : Env W c B cb r n m w.drew :=
  ⟨h.x, h.s.drew, h.b.drew, h.l0, h.l1, h.l2, h.n1, h.n2⟩
theorem Env.step {W : World} {c : Cf} {B cb r n : Nat} {m m' : Mm} {w w' : World} {b : Nat} (h : Env W c B cb r n m w) (o : Own W B cb r b) (hc : Cel 70 w' cb r n m'.f m'.c) (ht : Tri b cb r w w') : Env W c B cb r n m' w' :=
  ⟨(ht.block B (fun e => o.n0 e.symm) h.n1 h.n2).trans h.x, hc, h.b.trans (ht.below o.l h.l1 h.l2), h.l0, h.l1, h.l2, h.n1, h.n2⟩
/-- Only the block b has turned. -/
theorem Env.one {W : World} {c : Cf} {B cb r n : Nat} {m : Mm} {w w' : World} {b : Nat} (h : Env W c B cb r n m w) (o : Own W B cb r b) (ht : Touch b b w w') : Env W c B cb r n m w' :=
  ⟨(ht.block B (fun e => o.n0 e.symm) (fun e => o.n0 e.symm)).trans h.x, h.s.of_blocks (ht.block cb (fun e => o.n1 e.symm) (fun e => o.n1 e.symm)) (ht.block r (fun e => o.n2 e.symm) (fun e => o.n2 e.symm)), h.b.trans (ht.below o.l o.l), h.l0, h.l1, h.l2, h.n1, h.n2⟩
theorem Env.fresh {W : World} {c : Cf} {B cb r n : Nat} {m : Mm} {w : World} {b : Nat} (h : Env W c B cb r n m w) (hs : w.heap.size ≤ b) : Own W B cb r b :=
  ⟨Nat.le_trans h.b.size hs, by have := h.x.lt; omega, by have := h.s.lt; omega, by have := h.s.rlt; omega⟩

theorem env_made {W : World} {c : Cf} {B cb r n : Nat} {m : Mm} {w : World} {fn : FuncId} {args : Array Value} {L : LS} (hm : Calls Try.prog fn args w (Made L w)) (h : Env W c B cb r n m w) :
    Calls Try.prog fn args w fun e w' => ∃ b, e = .returned (.pointer (some ⟨b, 0, none⟩)) ∧ Own W B cb r b ∧ w.heap.size ≤ b ∧ Lat w' b L ∧ Env W c B cb r n m w' ∧ Below w.heap.size w w' :=
  hm.mono fun _ _ ⟨b, he, hs, hl, hb⟩ => ⟨b, he, h.fresh hs, hs, hl, h.next hb, hb⟩
theorem env_step {W : World} {c : Cf} {B cb r n : Nat} {m : Mm} {w : World} {b : Nat} {L : LS} (h : Env W c B cb r n m w) (hl : Lat w b L) (o : Own W B cb r b) (ok : Ok n L) :
    Calls Try.prog 17 #[.pointer (some ⟨b, 0, none⟩), .pointer (some ⟨cb, 0, none⟩)] w fun e w' => e = .returned (.bool (decide (8 ≤ (itL 1 L m).p))) ∧ Lat w' b (itL 1 L m) ∧ Env W c B cb r n (itM 1 L m) w' ∧ Tri b cb r w w' :=
  (step_st b cb r n ⟨L, m.f, m.c⟩ w hl h.s ok o.n1 o.n2).mono fun _ _ ⟨he, h1, h2, h3⟩ => ⟨he, h1, h.step o h2 h3, h3⟩
theorem env_through {W : World} {c : Cf} {B cb r n : Nat} {m : Mm} {w : World} {b : Nat} {L : LS} (h : Env W c B cb r n m w) (hl : Lat w b L) (o : Own W B cb r b) (ok : Ok n L) :
    Calls Try.prog 29 #[.pointer (some ⟨b, 0, none⟩), .pointer (some ⟨cb, 0, none⟩)] w fun e w' => e = .returned (.bool (gotB 20 L m)) ∧ Lat w' b (itL 20 L m) ∧ Env W c B cb r n (itM 20 L m) w' ∧ Tri b cb r w w' :=
  (through_any b cb r n ⟨L, m.f, m.c⟩ w hl h.s ok o.n1 o.n2).mono fun _ _ ⟨he, h1, h2, h3⟩ => ⟨he, h1, h.step o h2 h3, h3⟩
theorem it_ok {n : Nat} {L : LS} {m : Mm} (ok : Ok n L) (k : Nat) : Ok n (itL k L m) := itS_ok (s := ⟨L, m.f, m.c⟩) ok k
theorem it_succ (k : Nat) (L : LS) (m : Mm) : itL 1 (itL k L m) (itM k L m) = itL (k + 1) L m ∧ itM 1 (itL k L m) (itM k L m) = itM (k + 1) L m := ⟨rfl, rfl⟩
theorem cancel_ok {n : Nat} {L : LS} (ok : Ok n L) : Ok n (cancelL L) := by
  unfold cancelL
  split
  · exact ⟨by simp, ok.2.imp id fun g => g.setP _⟩
  split
  · exact ⟨by simp, ok.2.imp id fun g => g.setP _⟩
  · exact ok

theorem latch_in (c : Cf) (node : Int) : latchD c node = -1 ∨ (okB c = true ∧ 0 ≤ latchD c node ∧ latchD c node + 8 ≤ cellsD c) := by
  rcases level_ways c node with ⟨h, _⟩ | ⟨h0, h1, ho, hw⟩
  · exact .inl (by unfold latchD; rw [if_neg (by omega)])
  · rcases hw with ⟨h, _⟩ | ⟨h, _⟩ | ⟨h, h2, h3⟩
    · exact .inl (by unfold latchD; rw [if_neg (by omega)])
    · exact .inl (by unfold latchD; rw [if_neg (by omega)])
    · refine .inr ⟨ho, ?_⟩
      rw [nodes_ok ho] at h1
      have := nw_in (okB_hp ho)
      unfold latchD cellsD
      rw [if_pos h, ho, if_pos rfl]
      constructor <;> omega
theorem cells_in (c : Cf) : 0 ≤ cellsD c ∧ cellsD c ≤ 8192 := by
  unfold cellsD
  rcases ho : okB c
  · simp
  · have := nw_in (okB_hp ho)
    have := ns_in (okB_hp ho)
    simp; omega
theorem ok_t {c : Cf} (h : okB c = true) : 1 ≤ c.t ∧ c.t ≤ 64 ∧ 0 ≤ c.l ∧ c.l ≤ 48 := by
  simp only [okB, roomB, Bool.and_eq_true, inB_iff] at h
  omega
theorem ok_new {c : Cf} {n : Nat} (hn : cellsD c = n) (p : Int) (node t : Int) (rd : Bool) (wd : Int) (p0 : 0 ≤ p) (w0 : 0 ≤ wd) (w1 : wd ≤ 7) : Ok n (newL p c node t rd wd) := by
  refine ⟨p0, ?_⟩
  unfold newL
  by_cases h : 0 ≤ t ∧ t < c.t
  · rcases latch_in c node with e | ⟨ho, h0, h1⟩
    · exact .inl (by simp [h, e])
    · have hc := cells_in c
      have ht := ok_t ho
      refine .inr ⟨h.1, by show t < 64; omega, fun hs => ?_, by simp [h, h0], by simp [h]; omega, by omega, w0, w1⟩
      have : t < c.l := by simpa using hs
      show t < 48
      omega
  · exact .inl (by simp [h])
end Go.Proofs.Ytlhmpkeljagihaa
