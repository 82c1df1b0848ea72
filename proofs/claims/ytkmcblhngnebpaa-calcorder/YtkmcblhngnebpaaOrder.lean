/- The walk of CalcOrder: it answers true. -/
import Derived.Test.YtkmcblhngnebpaaOwn
import Derived.Deep.RegionHeld3
import Derived.Deep.AppendLies
namespace Go.Proofs.Ytkmcblhngnebpaa
open Go.RowKit

theorem order_out (kind : Int) (a : Option Addr) (len cap : Nat) (at_ : Int) (w : World) (hbad : ¬ ((len : Int) ≤ 1000 ∧ 0 ≤ at_ ∧ at_ ≤ len ∧ kind ≠ 1 ∧ kind ≠ 3)) (hm : len ≤ maxLen) :
    Calls Try.prog 4 #[.int .i64 kind, .slice a len cap, .int .i64 at_] w fun e w' => e = .returned (.bool true) ∧ Below w.heap.size w w' := by
  unfold maxLen at hm
  by_cases c1 : (1000 : Int) < (len : Int)
  · clear hbad
    go_enter Try.func4, Try.ntmps4
    go_wp2_with fail
    refine (first_any _).mono ?_
    rintro e w1 ⟨rfl, hb1⟩
    go_wp2_with fail
    refine (first_any _).mono ?_
    rintro e w2 ⟨rfl, hb2⟩
    go_wp2
    go_ret
    exact ⟨rfl, bthen hb1 hb2⟩
  have d1 : decide ((1000 : Int) < (len : Int)) = false := decide_eq_false c1
  by_cases c2 : at_ < 0
  · clear hbad
    go_enter Try.func4, Try.ntmps4
    go_wp2_with fail
    refine (first_any _).mono ?_
    rintro e w1 ⟨rfl, hb1⟩
    go_wp2_with fail
    refine (first_any _).mono ?_
    rintro e w2 ⟨rfl, hb2⟩
    go_wp2
    go_ret
    exact ⟨rfl, bthen hb1 hb2⟩
  have d2 : decide (at_ < 0) = false := decide_eq_false c2
  by_cases c3 : (len : Int) < at_
  · clear hbad
    go_enter Try.func4, Try.ntmps4
    go_wp2_with fail
    refine (first_any _).mono ?_
    rintro e w1 ⟨rfl, hb1⟩
    go_wp2_with fail
    refine (first_any _).mono ?_
    rintro e w2 ⟨rfl, hb2⟩
    go_wp2
    go_ret
    exact ⟨rfl, bthen hb1 hb2⟩
  have d3 : decide ((len : Int) < at_) = false := decide_eq_false c3
  by_cases c4 : kind = 1
  · subst c4
    clear hbad
    go_enter Try.func4, Try.ntmps4
    go_wp2_with fail
    refine (first_any _).mono ?_
    rintro e w1 ⟨rfl, hb1⟩
    go_wp2_with fail
    refine (first_any _).mono ?_
    rintro e w2 ⟨rfl, hb2⟩
    go_wp2
    go_ret
    exact ⟨rfl, bthen hb1 hb2⟩
  have d4 : (kind == 1) = false := beq_eq_false_iff_ne.2 c4
  by_cases c5 : kind = 3
  · subst c5
    clear hbad
    go_enter Try.func4, Try.ntmps4
    go_wp2_with fail
    refine (first_any _).mono ?_
    rintro e w1 ⟨rfl, hb1⟩
    go_wp2_with fail
    refine (first_any _).mono ?_
    rintro e w2 ⟨rfl, hb2⟩
    go_wp2
    go_ret
    exact ⟨rfl, bthen hb1 hb2⟩
  exact absurd ⟨by omega, by omega, by omega, c4, c5⟩ hbad

/-- What append asks of its second argument: a slice that is read, nil or not. -/
theorem run_append_seg (w : World) (ty : TypeId) (base : Nat) (i0 : TypeInfo) (hi : Try.prog.info? 3 = some i0) (hz0 : i0.zero = some (.int .i64 0)) (hz1 : i0.size = 1) (hz2 : i0.bytes = 8)
    (v : Value) (n : Nat) (k : List Int) (hown : w.ownsRow base 3 1 v n (k.map (Value.int .i64))) (va : Option Addr) (m c : Nat) (l : List Int) (hs : Seg w va m l) (hnil : va = none → c = 0)
    (hm : n + m ≤ 2000) (hbase : base ≤ w.heap.size) :
    ∃ v' w', (Builtin.append_ #[22, 22] ty #[v, .slice va m c]).run Try.prog w = .ok v' w' ∧ w'.ownsRow base 3 1 v' (n + m) ((k ++ l).map (Value.int .i64)) ∧ w.grownBy w' v.ownBlock := by
  cases va with
  | none =>
    obtain rfl := hnil rfl
    have hm0 : m = 0 := by
      rcases hs.2 with h | ⟨_, _, h, _⟩
      · exact h
      · cases h
    subst hm0
    obtain rfl : l = [] := List.eq_nil_of_length_eq_zero hs.1
    have hr := run_append_owned_none (P := Try.prog) (w := w) base 22 ty 3 i0 1 Try.underlying22 hi v n _ hown
    exact ⟨v, w, hr, by simpa using hown, ⟨rfl, rfl, rfl, Nat.le_refl _, fun _ _ _ => rfl⟩⟩
  | some ad =>
    have hnews : ∀ j u, (l.map (Value.int .i64))[j]? = some u → w.cell? (ad.add j) = some u := by
      rcases hs.2 with h | ⟨b, off, h, _⟩
      · subst h
        obtain rfl : l = [] := List.eq_nil_of_length_eq_zero hs.1
        intro j u hj
        simp at hj
      · obtain rfl : ad = ⟨b, off, none⟩ := by simpa using h
        exact seg_news hs
    obtain ⟨v', w', hr, h2, h3, _⟩ := run_append_own (P := Try.prog) w base 22 ty 3 i0 (.int .i64 0) 1 8 Try.underlying22 hi hz0 hz1 hz2 rfl (by decide) v n _ hown ad m c _ (news_len l m hs.1) hnews (ints_oneCell _ _) (by unfold maxLen; omega) (by omega) hbase
    exact ⟨v', w', hr, by rw [List.map_append]; exact h2, h3⟩

/-- The cells that hold the numbers of a list. -/
def vals (l : List Int) : List Value := l.map (Value.int .i64)
theorem owns_vals {w : World} {base : Nat} {v : Value} {n : Nat} {l : List Int} (h : w.ownsRow base 3 1 v n (vals l)) :
    ∃ a cap, v = .slice a n cap ∧ n ≤ cap ∧ cap ≤ maxLen ∧ Seg w a n l := owns_seg h
theorem owns_start (w : World) (base : Nat) (hb : base ≤ w.heap.size) : (w.alloc (.cells #[] 3)).ownsRow base 3 1 (.slice (some ⟨w.heap.size, 0, none⟩) 0 0) 0 (vals []) := owns_empty w base hb
/-- The same, at a step of a region that draws its order, and at a plain one. -/
theorem wp_append_seg (w : World) {o : Oper} {a : Act} {K : Act → World → Prop} {Q : Exit → Act → World → Prop} (s x : Operand)
    (ho : o.op = .call { callee := .builtin .append, args := #[s, x], argTypes := #[22, 22] })
    (base : Nat) (v : Value) (n : Nat) (k : List Int) (hv : a.eval s = v) (hown : w.ownsRow base 3 1 v n (vals k)) (va : Option Addr) (m c : Nat) (l : List Int) (hx : a.eval x = .slice va m c) (hs : Seg w va m l) (hnil : va = none → c = 0)
    (hm : n + m ≤ 2000) (hbase : base ≤ w.heap.size)
    (h : ∀ v' w', w'.ownsRow base 3 1 v' (n + m) (vals (k ++ l)) → w.grownBy w' v.ownBlock → K (a.put o.dst v') w') : o.wp Try.prog a w K Q := by
  obtain ⟨i0, hi, hz0, hz1, hz2⟩ := info_parts Try.info3
  obtain ⟨v', w', hr, h2, h3⟩ := run_append_seg w o.type base i0 hi hz0 hz1 hz2 v n k hown va m c l hs hnil hm hbase
  unfold Oper.wp execOp
  simp only [ho, resolve, invoke, builtin, Sem.run_bind, Sem.run_pure, Result.andThen_ok, List.map_toArray, List.map_cons, List.map_nil, hv, hx, hr]
  exact h v' w' h2 h3
theorem step_append_seg (w : World) {ops : Array Oper} {o : Oper} {a : Act} {K : Act → World → Prop} {Q : Exit → Act → World → Prop} {E : Prop} (hgd : o.guard = none) (s x : Operand)
    (ho : o.op = .call { callee := .builtin .append, args := #[s, x], argTypes := #[22, 22] })
    (base : Nat) (v : Value) (n : Nat) (k : List Int) (hv : a.eval s = v) (hown : w.ownsRow base 3 1 v n (vals k)) (va : Option Addr) (m c : Nat) (l : List Int) (hx : a.eval x = .slice va m c) (hs : Seg w va m l) (hnil : va = none → c = 0)
    (hm : n + m ≤ 2000) (hbase : base ≤ w.heap.size)
    (h : ∀ v' w', w'.ownsRow base 3 1 v' (n + m) (vals (k ++ l)) → w.grownBy w' v.ownBlock → K (a.put o.dst v') w') :
    if Region.wanted o (yielded ops a.tmps) = true then Oper.wp Try.prog o a w K Q else E := by
  have hw : Region.wanted o (yielded ops a.tmps) = true := by simp [Region.wanted, hgd]
  rw [if_pos hw]
  exact wp_append_seg w s x ho base v n k hv hown va m c l hx hs hnil hm hbase h
theorem wpList_append_seg (w : World) {ops : Array Oper} {rest : List Oper} {o : Oper} {a : Act} {Q : Exit → Act → World → Prop} (hgd : o.guard = none) (s x : Operand)
    (ho : o.op = .call { callee := .builtin .append, args := #[s, x], argTypes := #[22, 22] })
    (base : Nat) (v : Value) (n : Nat) (k : List Int) (hv : a.eval s = v) (hown : w.ownsRow base 3 1 v n (vals k)) (va : Option Addr) (m c : Nat) (l : List Int) (hx : a.eval x = .slice va m c) (hs : Seg w va m l) (hnil : va = none → c = 0)
    (hm : n + m ≤ 2000) (hbase : base ≤ w.heap.size)
    (h : ∀ v' w', w'.ownsRow base 3 1 v' (n + m) (vals (k ++ l)) → w.grownBy w' v.ownBlock → wpList Try.prog ops Q rest (a.put o.dst v') w') : wpList Try.prog ops Q (o :: rest) a w :=
  wpList_plain hgd fun _ hK => wp_append_seg w s x ho base v n k hv hown va m c l hx hs hnil hm hbase fun v' w' h2 h3 => hK _ _ (h v' w' h2 h3)
end Go.Proofs.Ytkmcblhngnebpaa
