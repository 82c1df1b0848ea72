/- Texts of this claim, put together in their order. -/
import Derived.Test.YtjgepcifknmdhaaBase1
import Derived.Test.YtjgepcifknmdhaaBase2
import Derived.Test.YtjgepcifknmdhaaBase3
import Derived.Test.YtjgepcifknmdhaaBase4
import Derived.Test.YtjgepcifknmdhaaBase5
import Derived.Test.YtjgepcifknmdhaaBase6
import Derived.Test.YtjgepcifknmdhaaBase7
/- Rings: plain words. -/
namespace Go.Proofs.Ytjgepcifknmdhaa
/-- The next place of the ring. -/
def nxt (N k : Nat) : Nat := if k + 1 < N then k + 1 else 0
theorem mod_nxt {N k : Nat} (h : k < N) : (k + 1) % N = nxt N k := by
  unfold nxt
  split
  · exact Nat.mod_eq_of_lt (by omega)
  · rw [show k + 1 = N by omega, Nat.mod_self]


/-- Edges of a ring of N from B on. -/
def RgE (B : Int) (N : Nat) (a b : Int) : Prop := ∃ k : Nat, k < N ∧ a = B + (k : Int) ∧ b = B + (nxt N k : Int)
section
variable {B : Int} {N : Nat} (hN : 2 ≤ N)
include hN
omit hN in
theorem rg_up (A : Int → Prop) : ∀ d k : Nat, k + d = N → (∀ j : Nat, k ≤ j → j < N → ¬ A (B + (j : Int))) → ¬ A B → Av (RgE B N) A (if k < N then B + (k : Int) else B) B
  | 0, k, h, _, h0 => by
    rw [if_neg (by omega)]
    exact .refl h0
  | d + 1, k, h, hA, h0 => by
    rw [if_pos (by omega)]
    have ih := rg_up A d (k + 1) (by omega) (fun j h1 h2 => hA j (by omega) h2) h0
    refine .step (hA k (Nat.le_refl _) (by omega)) ⟨k, by omega, rfl, rfl⟩ ?_
    have e : (B + (nxt N k : Int)) = (if k + 1 < N then B + ((k + 1 : Nat) : Int) else B) := by
      unfold nxt
      split
      · rfl
      · simp
    rw [e]
    exact ih
theorem rg_on {k : Nat} (hk : k < N) : On (RgE B N) (B + (k : Int)) := by
  have up := rg_up (B := B) (N := N) (fun _ => False)
  have h1 := up (N - k) k (by omega) (fun _ _ _ => id) id
  rw [if_pos hk] at h1
  have h2 : ∀ j : Nat, j < N → Rch (RgE B N) B (B + (j : Int)) := by
    intro j
    induction j with
    | zero => intro _; rw [show B + ((0 : Nat) : Int) = B by omega]; exact Rch.refl _ _
    | succ j ih =>
      intro hj
      refine Av.snoc (ih (by omega)) ⟨j, by omega, rfl, ?_⟩ id
      unfold nxt
      rw [if_pos hj]
  have e0 : RgE B N (B + ((N - 1 : Nat) : Int)) B := ⟨N - 1, by omega, rfl, by unfold nxt; rw [if_neg (by omega)]; simp⟩
  cases k with
  | zero =>
    rw [show B + ((0 : Nat) : Int) = B by omega]
    exact on_of (h2 (N - 1) (by omega)) e0
  | succ k =>
    have e1 : RgE B N (B + (k : Int)) (B + ((k + 1 : Nat) : Int)) := ⟨k, by omega, rfl, by unfold nxt; rw [if_pos (by omega)]⟩
    exact on_of (h1.trans (h2 k (by omega))) e1
omit hN in
theorem rg_in {a b : Int} (h : RgE B N a b) : B ≤ a ∧ a < B + N ∧ B ≤ b ∧ b < B + N := by
  obtain ⟨k, h1, h2, h3⟩ := h
  have : nxt N k < N := by unfold nxt; split <;> omega
  omega
/-- The ring itself. -/
def rgL (B : Int) (N : Nat) : List Int := (List.range N).map fun (k : Nat) => B + (k : Int)
omit hN in
theorem rgl_succ (B : Int) (n : Nat) : rgL B (n + 1) = rgL B n ++ [B + (n : Int)] := by
  unfold rgL; rw [List.range_succ, List.map_append]; rfl
omit hN in
theorem rgl_mem {B : Int} {n : Nat} {x : Int} : x ∈ rgL B n ↔ ∃ j : Nat, j < n ∧ x = B + (j : Int) := by
  unfold rgL
  simp only [List.mem_map, List.mem_range]
  exact ⟨fun ⟨j, h1, h2⟩ => ⟨j, h1, h2.symm⟩, fun ⟨j, h1, h2⟩ => ⟨j, h1, h2.symm⟩⟩
/-- The circle is the ring. -/
theorem rg_circ : Circ (RgE B N) (rgL B N) := by
  have way : ∀ k, k < N → Way (RgE B N) B (rgL B (k + 1)) := by
    intro k
    induction k with
    | zero => intro _; rw [rgl_succ]; show Way _ _ [B + ((0 : Nat) : Int)]; rw [show B + ((0 : Nat) : Int) = B by omega]; exact Way.one
    | succ k ih =>
      intro hk
      have ih := ih (by omega)
      have nk : nxt N k = k + 1 := by unfold nxt; rw [if_pos hk]
      rw [rgl_succ B (k + 1), rgl_succ B k]
      rw [rgl_succ B k] at ih
      have mem2 : ∀ x : Int, x ∈ rgL B k ++ [B + (k : Int)] ↔ ∃ j : Nat, j < k + 1 ∧ x = B + (j : Int) := fun x => by rw [← rgl_succ B k]; exact rgl_mem
      refine Way.more ih ?_ ⟨k, by omega, rfl, by rw [nk]⟩ ?_ ?_ ?_
      · rintro ⟨k', h1, h2, h3⟩
        obtain rfl : k = k' := by omega
        rw [nk] at h3
        omega
      · rw [mem2]
        rintro ⟨j, h1, h2⟩
        omega
      · have up := rg_up (B := B) (N := N) (fun x => x ∈ rgL B k ++ [B + (k : Int)] ∧ x ≠ B) (N - (k + 1)) (k + 1) (by omega) (fun j h1 h2 ⟨h3, _⟩ => by
          obtain ⟨j', h4, h5⟩ := (mem2 _).1 h3
          omega) (fun h => h.2 rfl)
        rw [if_pos hk] at up
        exact up
      · intro m' hm he hmem _
        obtain ⟨k', h1, h2, h3⟩ := he
        obtain rfl : k = k' := by omega
        rw [nk] at h3
        omega
  refine .inr ⟨B, rgL B (N - 1), B + ((N - 1 : Nat) : Int), ?_, ?_, ?_, ?_, ?_⟩
  · rw [← rgl_succ, show N - 1 + 1 = N by omega]
  · have := rg_on (B := B) hN (k := 0) (by omega)
    rwa [show B + ((0 : Nat) : Int) = B by omega] at this
  · intro n hn
    obtain ⟨t, e, _⟩ := hn
    exact (rg_in e).1
  · have := way (N - 1) (by omega)
    rw [rgl_succ] at this
    exact this
  · exact ⟨N - 1, by omega, rfl, by unfold nxt; rw [if_neg (by omega)]; simp⟩
omit hN in
/-- Without one of the ring there is none. -/
theorem rg_cut {S : Nat} (hS : S < N) : ∀ n, ¬ On (fun a b => RgE B N a b ∧ a ≠ B + (S : Int) ∧ b ≠ B + (S : Int)) n := by
  let f : Int → Int := fun x => if B + (S : Int) ≤ x then x - B - S else x - B + N - S
  have hf : ∀ a b, RgE B N a b ∧ a ≠ B + (S : Int) ∧ b ≠ B + (S : Int) → f a < f b := by
    rintro a b ⟨⟨k, h4, h5, h6⟩, ha, hb⟩
    show (if B + (S : Int) ≤ a then a - B - S else a - B + N - S) < (if B + (S : Int) ≤ b then b - B - S else b - B + N - S)
    unfold nxt at h6
    split at h6 <;> (repeat' split) <;> omega
  have hr : ∀ a b, Rch (fun a b => RgE B N a b ∧ a ≠ B + (S : Int) ∧ b ≠ B + (S : Int)) a b → f a ≤ f b := by
    intro a b h
    induction h with
    | refl _ => exact Int.le_refl _
    | step _ e _ ih => exact Int.le_trans (Int.le_of_lt (hf _ _ e)) ih
  rintro n ⟨t, e, r⟩
  have h1 := hf _ _ e
  have h2 := hr _ _ r
  omega
end
/-- Two parts, none between: the circle is that of the lower one, if it has one. -/
theorem two_parts {E E1 E2 : Int → Int → Prop} {M : Int} (hE : ∀ x y, E x y ↔ E1 x y ∨ E2 x y) (b1 : ∀ x y, E1 x y → x < M ∧ y < M) (b2 : ∀ x y, E2 x y → M ≤ x ∧ M ≤ y) :
    (∀ a, Circ E1 a → a ≠ [] → Circ E a) ∧ ((∀ n, ¬ On E1 n) → ∀ b, Circ E2 b → Circ E b) := by
  have u1 : ∀ x y, x < M → E x y → E1 x y := fun x y hx h => by
    rcases (hE x y).1 h with h | h
    · exact h
    · have := b2 _ _ h; omega
  have u2 : ∀ x y, M ≤ x → E x y → E2 x y := fun x y hx h => by
    rcases (hE x y).1 h with h | h
    · have := b1 _ _ h; omega
    · exact h
  have v1 : ∀ x y, E1 x y → E x y := fun x y h => (hE x y).2 (.inl h)
  have v2 : ∀ x y, E2 x y → E x y := fun x y h => (hE x y).2 (.inr h)
  have o1 : ∀ n, n < M → On E n → On E1 n := fun n hn h => on_part u1 (fun x y k => (b1 x y k).2) hn h
  have o2 : ∀ n, M ≤ n → On E n → On E2 n := fun n hn h => on_part u2 (fun x y k => (b2 x y k).2) hn h
  refine ⟨fun a ha hne => ?_, fun hno b hb => ?_⟩
  · rcases ha with ⟨rfl, _⟩ | ⟨s, p, v, rfl, hs, hl, hw, he⟩
    · exact absurd rfl hne
    · have hsM : s < M := (b1 _ _ he).2
      refine .inr ⟨s, p, v, rfl, hs.mono v1, fun n h => ?_, (way_part v1 u1 (fun x y k => (b1 x y k).2) hsM hw).1, v1 _ _ he⟩
      rcases (show n < M ∨ M ≤ n by omega) with k | k
      · exact hl n (o1 n k h)
      · omega
  · have hhi : ∀ n, On E n → M ≤ n ∧ On E2 n := fun n h => by
      rcases (show n < M ∨ M ≤ n by omega) with k | k
      · exact absurd (o1 n k h) (hno n)
      · exact ⟨k, o2 n k h⟩
    rcases hb with ⟨rfl, hno2⟩ | ⟨s, p, v, rfl, hs, hl, hw, he⟩
    · exact .inl ⟨rfl, fun n h => hno2 n (hhi n h).2⟩
    · have hsM : M ≤ s := (b2 _ _ he).2
      exact .inr ⟨s, p, v, rfl, hs.mono v2, fun n h => hl n (hhi n h).2, (way_part v2 u2 (fun x y k => (b2 x y k).2) hsM hw).1, v2 _ _ he⟩
/-- The edges of a ring, as the laws write them. -/
def rgF (B : Int) (N : Nat) : Nat → List En
  | 0 => []
  | i + 1 => rgF B N i ++ [(B + (i : Int), B + (((i + 1) % N : Nat) : Int))]
theorem rgf_len (B : Int) (N : Nat) : ∀ i, (rgF B N i).length = i
  | 0 => rfl
  | i + 1 => by show (rgF B N i ++ _).length = _; rw [List.length_append, rgf_len B N i]; rfl
theorem rgf_mem {B : Int} {N : Nat} {e : En} : ∀ i, e ∈ rgF B N i ↔ ∃ j, j < i ∧ e = (B + (j : Int), B + (((j + 1) % N : Nat) : Int))
  | 0 => by simp [rgF]
  | i + 1 => by
    show e ∈ rgF B N i ++ _ ↔ _
    rw [List.mem_append, rgf_mem i, List.mem_singleton]
    constructor
    · rintro (⟨j, h1, h2⟩ | h)
      · exact ⟨j, by omega, h2⟩
      · exact ⟨i, by omega, h⟩
    · rintro ⟨j, h1, h2⟩
      rcases (show j < i ∨ j = i by omega) with h3 | rfl
      · exact .inl ⟨j, h3, h2⟩
      · exact .inr h2
theorem rgf_edge {B : Int} {N : Nat} {a b : Int} : CE (rgF B N N) a b ↔ RgE B N a b := by
  unfold CE
  rw [rgf_mem]
  constructor
  · rintro ⟨j, h1, h2⟩
    injection h2 with e1 e2
    rw [mod_nxt h1] at e2
    exact ⟨j, h1, e1, e2⟩
  · rintro ⟨k, h1, rfl, rfl⟩
    exact ⟨k, h1, by rw [mod_nxt h1]⟩
/-- Who is the youngest of a ring's first ones: a place. -/
def rgY (T : List Int) (B : Int) : Nat → Nat
  | 0 => 0
  | i + 1 => if ygB T (B + (i : Int)) (B + (rgY T B i : Int)) then i else rgY T B i
theorem rgy_lt (T : List Int) (B : Int) : ∀ n, 0 < n → rgY T B n < n
  | 0, h => absurd h (by decide)
  | 1, _ => by unfold rgY; split <;> simp [rgY]
  | n + 2, _ => by
    have := rgy_lt T B (n + 1) (by omega)
    rw [rgY]
    split <;> omega
theorem rgy_yo (T : List Int) (B : Int) : ∀ n, 0 < n → Yo T (rgL B n) (B + (rgY T B n : Int))
  | 0, h => absurd h (by decide)
  | 1, _ => by
    have e : rgY T B 1 = 0 := by have := rgy_lt T B 1 (by omega); omega
    rw [e, rgl_succ]
    exact yo_one T _
  | n + 2, _ => by
    have h := (rgy_yo T B (n + 1) (by omega)).snoc (B + ((n + 1 : Nat) : Int))
    rw [← rgl_succ] at h
    have e : (B + (rgY T B (n + 2) : Int)) = (if ygB T (B + ((n + 1 : Nat) : Int)) (B + (rgY T B (n + 1) : Int)) then B + ((n + 1 : Nat) : Int) else B + (rgY T B (n + 1) : Int)) := by
      rw [rgY]
      split <;> rfl
    rw [e]
    exact h
/-- All edges of the first rings. -/
def rgsL (N : Nat) : Nat → List En
  | 0 => []
  | r + 1 => rgsL N r ++ rgF (10 * (r : Int)) N N
theorem rgs_mem {N : Nat} {e : En} : ∀ R, e ∈ rgsL N R ↔ ∃ r, r < R ∧ e ∈ rgF (10 * (r : Int)) N N
  | 0 => by simp [rgsL]
  | R + 1 => by
    show e ∈ rgsL N R ++ _ ↔ _
    rw [List.mem_append, rgs_mem R]
    constructor
    · rintro (⟨r, h1, h2⟩ | h)
      · exact ⟨r, by omega, h2⟩
      · exact ⟨R, by omega, h⟩
    · rintro ⟨r, h1, h2⟩
      rcases (show r < R ∨ r = R by omega) with h3 | rfl
      · exact .inl ⟨r, h3, h2⟩
      · exact .inr h2
theorem rgs_len (N : Nat) : ∀ R, (rgsL N R).length = R * N
  | 0 => by simp [rgsL]
  | R + 1 => by show (rgsL N R ++ _).length = _; rw [List.length_append, rgs_len N R, rgf_len, Nat.succ_mul]
/-- What the law wants: of each ring the youngest. -/
def rgsY (T : List Int) (N : Nat) : Nat → List Int
  | 0 => []
  | r + 1 => rgsY T N r ++ [10 * (r : Int) + (rgY T (10 * (r : Int)) N : Int)]
theorem rgsy_mem {T : List Int} {N : Nat} {x : Int} : ∀ R, x ∈ rgsY T N R ↔ ∃ r, r < R ∧ x = 10 * (r : Int) + (rgY T (10 * (r : Int)) N : Int)
  | 0 => by simp [rgsY]
  | R + 1 => by
    show x ∈ rgsY T N R ++ _ ↔ _
    rw [List.mem_append, rgsy_mem R, List.mem_singleton]
    constructor
    · rintro (⟨r, h1, h2⟩ | h)
      · exact ⟨r, by omega, h2⟩
      · exact ⟨R, by omega, h⟩
    · rintro ⟨r, h1, h2⟩
      rcases (show r < R ∨ r = R by omega) with h3 | rfl
      · exact .inl ⟨r, h3, h2⟩
      · exact .inr h2
/-- The edges of ring r, none of whose is gone. -/
theorem rgs_edge {N R : Nat} {a b : Int} : CE (rgsL N R) a b ↔ ∃ r : Nat, r < R ∧ RgE (10 * (r : Int)) N a b := by
  unfold CE
  rw [rgs_mem]
  exact ⟨fun ⟨r, h1, h2⟩ => ⟨r, h1, rgf_edge.1 h2⟩, fun ⟨r, h1, h2⟩ => ⟨r, h1, rgf_edge.2 h2⟩⟩
/-- Behind the first k victims the circle is ring k. -/
theorem rgs_circ {T : List Int} {N R k : Nat} (h2 : 2 ≤ N) (h10 : N ≤ 10) (hk : k ≤ R) : Circ (CE (woL (rgsY T N k) (rgsL N R))) (if k < R then rgL (10 * (k : Int)) N else []) := by
  have yl : ∀ r : Nat, rgY T (10 * (r : Int)) N < N := fun r => rgy_lt T _ N (by omega)
  have hE : ∀ a b, CE (woL (rgsY T N k) (rgsL N R)) a b ↔ ∃ r : Nat, r < R ∧ RgE (10 * (r : Int)) N a b ∧ (r < k → a ≠ 10 * (r : Int) + (rgY T (10 * (r : Int)) N : Int) ∧ b ≠ 10 * (r : Int) + (rgY T (10 * (r : Int)) N : Int)) := by
    intro a b
    have e : CE (woL (rgsY T N k) (rgsL N R)) a b ↔ CE (rgsL N R) a b ∧ a ∉ rgsY T N k ∧ b ∉ rgsY T N k := wol_mem
    rw [e, rgs_edge]
    constructor
    · rintro ⟨⟨r, h1, h3⟩, h4, h5⟩
      exact ⟨r, h1, h3, fun hr => ⟨fun q => h4 ((rgsy_mem k).2 ⟨r, hr, q⟩), fun q => h5 ((rgsy_mem k).2 ⟨r, hr, q⟩)⟩⟩
    · rintro ⟨r, h1, h3, h4⟩
      have hb := rg_in h3
      refine ⟨⟨r, h1, h3⟩, fun q => ?_, fun q => ?_⟩
      · obtain ⟨r', q1, q2⟩ := (rgsy_mem k).1 q
        have := yl r'
        obtain rfl : r = r' := by omega
        exact (h4 q1).1 q2
      · obtain ⟨r', q1, q2⟩ := (rgsy_mem k).1 q
        have := yl r'
        obtain rfl : r = r' := by omega
        exact (h4 q1).2 q2
  -- below ring k nothing is left
  have low : ∀ n, ¬ On (fun a b => CE (woL (rgsY T N k) (rgsL N R)) a b ∧ a < 10 * (k : Int) ∧ b < 10 * (k : Int)) n := by
    rintro n ⟨t, e, r⟩
    obtain ⟨e1, e2, _⟩ := e
    obtain ⟨j, j1, j2, j3⟩ := (hE _ _).1 e1
    have hj : j < k := by have := rg_in j2; omega
    have hone : ∀ x y, (10 * (j : Int) ≤ x ∧ x < 10 * (j : Int) + N) → (CE (woL (rgsY T N k) (rgsL N R)) x y ∧ x < 10 * (k : Int) ∧ y < 10 * (k : Int)) → RgE (10 * (j : Int)) N x y ∧ x ≠ 10 * (j : Int) + (rgY T (10 * (j : Int)) N : Int) ∧ y ≠ 10 * (j : Int) + (rgY T (10 * (j : Int)) N : Int) := by
      rintro x y hx ⟨q1, _, _⟩
      obtain ⟨i, i1, i2, i3⟩ := (hE _ _).1 q1
      have := rg_in i2
      obtain rfl : i = j := by omega
      exact ⟨i2, (i3 hj).1, (i3 hj).2⟩
    have hn : 10 * (j : Int) ≤ n ∧ n < 10 * (j : Int) + N := by have := rg_in j2; omega
    refine rg_cut (yl j) n (on_part (D := fun x => 10 * (j : Int) ≤ x ∧ x < 10 * (j : Int) + N) hone (fun x y q => ?_) hn ⟨t, ⟨e1, e2, by assumption⟩, r⟩)
    have := rg_in q.1
    omega
  have split1 : ∀ x y, CE (woL (rgsY T N k) (rgsL N R)) x y ↔ (CE (woL (rgsY T N k) (rgsL N R)) x y ∧ x < 10 * (k : Int) ∧ y < 10 * (k : Int)) ∨ ∃ r : Nat, r < R ∧ k ≤ r ∧ RgE (10 * (r : Int)) N x y := by
    intro x y
    constructor
    · intro h
      obtain ⟨r, r1, r2, r3⟩ := (hE _ _).1 h
      have := rg_in r2
      by_cases hr : r < k
      · exact .inl ⟨h, by omega, by omega⟩
      · exact .inr ⟨r, r1, by omega, r2⟩
    · rintro (h | ⟨r, r1, r2, r3⟩)
      · exact h.1
      · exact (hE _ _).2 ⟨r, r1, r3, fun q => by omega⟩
  have bnd2 : ∀ x y, (∃ r : Nat, r < R ∧ k ≤ r ∧ RgE (10 * (r : Int)) N x y) → 10 * (k : Int) ≤ x ∧ 10 * (k : Int) ≤ y := by
    rintro x y ⟨r, r1, r2, r3⟩
    have := rg_in r3
    omega
  refine (two_parts split1 (fun x y h => h.2) bnd2).2 low _ ?_
  by_cases hk2 : k < R
  · rw [if_pos hk2]
    refine (two_parts (E1 := RgE (10 * (k : Int)) N) (E2 := fun x y => ∃ r : Nat, r < R ∧ k < r ∧ RgE (10 * (r : Int)) N x y) (M := 10 * (k : Int) + 10) (fun x y => ?_) (fun x y h => ?_) (fun x y h => ?_)).1 _ (rg_circ h2) ?_
    · constructor
      · rintro ⟨r, r1, r2, r3⟩
        by_cases hr : r = k
        · subst hr; exact .inl r3
        · exact .inr ⟨r, r1, by omega, r3⟩
      · rintro (h | ⟨r, r1, r2, r3⟩)
        · exact ⟨k, hk2, Nat.le_refl _, h⟩
        · exact ⟨r, r1, by omega, r3⟩
    · have := rg_in h; omega
    · obtain ⟨r, r1, r2, r3⟩ := h
      have := rg_in r3; omega
    · intro h
      have := congrArg List.length h
      unfold rgL at this
      simp at this
      omega
  · rw [if_neg hk2]
    refine .inl ⟨rfl, ?_⟩
    rintro n ⟨t, ⟨r, r1, r2, _⟩, _⟩
    omega
/-- The victims of the rings. -/
theorem rgs_vic {T : List Int} {N R : Nat} (h2 : 2 ≤ N) (h10 : N ≤ 10) : vicD T (rgsL N R) = rgsY T N R := by
  have key : ∀ d k, k + d = R → rgsY T N k ++ vicD T (woL (rgsY T N k) (rgsL N R)) = rgsY T N R := by
    intro d
    induction d with
    | zero =>
      intro k hk
      have h := circ_eq (rgs_circ (T := T) (R := R) h2 h10 (show k ≤ R by omega))
      rw [if_neg (by omega)] at h
      rw [vic_no h.symm, List.append_nil, show k = R by omega]
    | succ d ih =>
      intro k hk
      have h := circ_eq (rgs_circ (T := T) (R := R) h2 h10 (show k ≤ R by omega))
      rw [if_pos (by omega)] at h
      have hne : circD (woL (rgsY T N k) (rgsL N R)) ≠ [] := by
        rw [← h]
        intro e
        have := congrArg List.length e
        unfold rgL at this
        simp at this
        omega
      have hy := mx_yo T _ hne
      rw [← h] at hy
      have e := hy.same (rgy_yo T (10 * (k : Int)) N (by omega))
      rw [h] at e
      rw [vic_yes hne, wo_more, e]
      have := ih (k + 1) (by omega)
      rw [← this]
      show _ = (rgsY T N k ++ [_]) ++ vicD T (woL (rgsY T N k ++ [_]) _)
      rw [List.append_assoc]
      rfl
  have := key R 0 (by omega)
  rw [show rgsY T N 0 = [] from rfl, wo_no] at this
  exact this
end Go.Proofs.Ytjgepcifknmdhaa

/- Tickets, who is younger: the package's and the law's. -/
namespace Go.Proofs.Ytjgepcifknmdhaa
open Go.RowKit
set_option linter.unusedVariables false

theorem tk_low {T : List Int} {n : Int} (h : n < 0) : tkD T n = 0 := by unfold tkD; rw [if_neg (by omega)]
theorem tk_high {T : List Int} {k : Nat} (h : T.length ≤ k) : tkD T (k : Int) = 0 := by unfold tkD; rw [if_neg (by omega)]
theorem tk_at {T : List Int} {k : Nat} (h : k < T.length) : tkD T (k : Int) = T.getD k 0 := by unfold tkD; rw [if_pos (by omega)]; rfl
set_option maxRecDepth 100000 in
theorem ticket_any (w : World) {v : Value} {T : List Int} (h : Rd w v T) (hT : T.length ≤ 1000) (n : Int) :
    Calls Try.prog 82 #[v, .int .i64 n] w fun e w' => e = .returned (.int .i64 (tkD T n)) ∧ w' = w := by
  obtain ⟨a, cap, rfl, hs⟩ := h
  by_cases h0 : n < 0
  · rw [tk_low h0]
    have hd : decide (n < 0) = true := by simpa using h0
    clear hs
    go_enter Try.func82, Try.ntmps82
    go_wp2
    go_ret
    exact ⟨rfl, rfl⟩
  · obtain ⟨k, rfl⟩ : ∃ k : Nat, n = (k : Int) := ⟨n.toNat, by omega⟩
    have hd : decide ((k : Int) < 0) = false := by simp
    by_cases h1 : k < T.length
    · rw [tk_at h1]
      obtain ⟨b, off, rfl, hc⟩ := seg_at hs h1
      obtain ⟨x, hx⟩ : ∃ x, x = T.getD k 0 := ⟨_, rfl⟩
      rw [← hx] at hc ⊢
      generalize T.length = m at *
      clear hs hx
      have hd2 : decide ((m : Int) ≤ (k : Int)) = false := by simpa using h1
      go_enter Try.func82, Try.ntmps82
      go_wp2
      go_ret
      exact ⟨rfl, rfl⟩
    · rw [tk_high (by omega)]
      generalize T.length = m at *
      clear hs
      have hd2 : decide ((m : Int) ≤ (k : Int)) = true := by simpa using h1
      go_enter Try.func82, Try.ntmps82
      go_wp2
      go_ret
      exact ⟨rfl, rfl⟩
set_option maxRecDepth 100000 in
theorem lyounger_any (w : World) {v : Value} {T : List Int} (h : Rd w v T) (hT : T.length ≤ 1000) (p q : Int) :
    Calls Try.prog 31 #[v, .int .i64 p, .int .i64 q] w fun e w' => e = .returned (.bool (ygB T p q)) ∧ w' = w := by
  obtain ⟨a, cap, rfl, hs⟩ := h
  have key : ∀ n : Int, (tkD T n = 0 ∧ (decide (0 ≤ n) = false ∨ (decide (0 ≤ n) = true ∧ decide (n < (T.length : Int)) = false))) ∨ (∃ k b off, n = (k : Nat) ∧ a = some ⟨b, off, none⟩ ∧ k < T.length ∧ w.cell? ⟨b, off + k, none⟩ = some (.int .i64 (tkD T n))) := by
    intro n
    by_cases h0 : n < 0
    · exact .inl ⟨tk_low h0, .inl (by simpa using h0)⟩
    · obtain ⟨k, rfl⟩ : ∃ k : Nat, n = (k : Int) := ⟨n.toNat, by omega⟩
      by_cases h1 : k < T.length
      · obtain ⟨b, off, e, hc⟩ := seg_at hs h1
        exact .inr ⟨k, b, off, rfl, e, h1, by rw [tk_at h1]; exact hc⟩
      · exact .inl ⟨tk_high (by omega), .inr ⟨by simp, by simpa using h1⟩⟩
  have hp := key p
  have hq := key q
  obtain ⟨m, hm⟩ : ∃ m, m = T.length := ⟨_, rfl⟩
  rw [← hm] at hp hq ⊢
  obtain ⟨x, hx⟩ : ∃ x, x = tkD T p := ⟨_, rfl⟩
  obtain ⟨y, hy⟩ : ∃ y, y = tkD T q := ⟨_, rfl⟩
  rw [← hx] at hp
  rw [← hy] at hq
  have hr : ygB T p q = (decide (y < x) || (decide (x = y) && decide (q < p))) := by unfold ygB; rw [hx, hy]
  obtain ⟨r, hr2⟩ : ∃ r, r = ygB T p q := ⟨_, rfl⟩
  rw [← hr2] at hr ⊢
  clear key hs hx hy hr2 hT hm
  have fin : Hid ((decide (y < x) = true ∧ r = true) ∨ (decide (y < x) = false ∧ (x == y) = true ∧ decide (q < p) = true ∧ r = true) ∨ (decide (y < x) = false ∧ (x == y) = true ∧ decide (q < p) = false ∧ r = false) ∨ (decide (y < x) = false ∧ (x == y) = false ∧ r = false)) := by
    show _ ∨ _
    by_cases h1 : y < x
    · exact .inl (by simp [hr, h1])
    · by_cases h2 : x = y
      · by_cases h3 : q < p
        · exact .inr (.inl (by simp [hr, h2, h3]))
        · exact .inr (.inr (.inl (by simp [hr, h2, h3])))
      · exact .inr (.inr (.inr (by simp [hr, h1, h2])))
  clear hr
  rcases hp with ⟨rfl, h1 | ⟨h1, h2⟩⟩ | ⟨k, b, off, rfl, e1, hk, hc⟩
  all_goals
    rcases hq with ⟨rfl, g1 | ⟨g1, g2⟩⟩ | ⟨j, b2, off2, rfl, e2, hj, hd⟩
  all_goals
    first | subst e1 | skip
  all_goals
    first | subst e2 | cases e2 | skip
  all_goals
    rcases unhide fin with ⟨f1, rfl⟩ | ⟨f1, f2, f3, rfl⟩ | ⟨f1, f2, f3, rfl⟩ | ⟨f1, f2, rfl⟩
  all_goals
    first
      | exact absurd f1 (by decide)
      | exact absurd f2 (by decide)
      | (clear fin
         go_enter Try.func31, Try.ntmps31
         go_wp2
         go_ret
         refine ⟨?_, rfl⟩
         first | rfl | exact ret_bool f3 | exact ret_bool (by simpa using f3))
/-- cmp.Or of two. -/
def or2 (x y : Int) : Int := if x = 0 then y else x
/-- Who is elder, as a number. -/
def agD (T : List Int) (p q : Int) : Int := or2 (cmpD (tkD T p) (tkD T q)) (cmpD p q)
theorem ag_yg (T : List Int) (p q : Int) : decide (0 < agD T p q) = ygB T p q := by
  unfold agD or2 cmpD ygB
  rw [Bool.eq_iff_iff]
  simp only [decide_eq_true_eq, Bool.or_eq_true, Bool.and_eq_true]
  (repeat' split) <;> omega
set_option maxRecDepth 100000 in
theorem or2_any (w : World) (x y : Int) {N : Nat} (hN : w.heap[N]? = some (.cells #[.int .i64 x, .int .i64 y] 3 (0, 0))) :
    Calls Try.prog 81 #[.slice (some ⟨N, 0, none⟩) 2 2] w fun e w' => e = .returned (.int .i64 (or2 x y)) ∧ w' = w := by
  have c0 : w.cell? ⟨N, 0, none⟩ = some (.int .i64 x) := by simp [World.cell?, hN]
  have c1 : w.cell? ⟨N, 1, none⟩ = some (.int .i64 y) := by simp [World.cell?, hN]
  clear hN
  obtain ⟨r, hr⟩ : ∃ r, r = or2 x y := ⟨_, rfl⟩
  rw [← hr]
  unfold or2 at hr
  by_cases hx : x = 0
  · rw [if_pos hx] at hr
    subst hx
    by_cases hy : y = 0
    · subst hy
      subst hr
      go_enter Try.func81, Try.ntmps81
      go_wp2
      go_loop [8] (fun i => ∃ k : Nat, k ≤ 2 ∧ i = .int .i64 k) (fun i => 2 - (intOf i).toNat)
      case atStart => exact ⟨0, Nat.zero_le _, rfl⟩
      case round =>
        obtain ⟨k, hk, rfl⟩ := hrel
        rcases (show k = 0 ∨ k = 1 ∨ k = 2 by omega) with rfl | rfl | rfl
        · go_wp2
          go_round
          case rel => exact ⟨1, by omega, by go_num⟩
          case measure => simp [intOf]
        · go_wp2
          go_round
          case rel => exact ⟨2, by omega, by go_num⟩
          case measure => simp [intOf]
        · go_wp2
          go_ret
          exact ⟨rfl, rfl⟩
    · have hb : (y == 0) = false := beq_eq_false_iff_ne.2 hy
      subst hr
      clear hy
      go_enter Try.func81, Try.ntmps81
      go_wp2
      go_loop [8] (fun i => ∃ k : Nat, k ≤ 1 ∧ i = .int .i64 k) (fun i => 2 - (intOf i).toNat)
      case atStart => exact ⟨0, Nat.zero_le _, rfl⟩
      case round =>
        obtain ⟨k, hk, rfl⟩ := hrel
        rcases (show k = 0 ∨ k = 1 by omega) with rfl | rfl
        · go_wp2
          go_round
          case rel => exact ⟨1, by omega, by go_num⟩
          case measure => simp [intOf]
        · go_wp2
          go_ret
          exact ⟨rfl, rfl⟩
  · rw [if_neg hx] at hr
    have hb : (x == 0) = false := beq_eq_false_iff_ne.2 hx
    subst hr
    clear hx
    go_enter Try.func81, Try.ntmps81
    go_wp2
    go_loop [8] (fun i => i = .int .i64 0) (fun i => 0)
    case atStart => rfl
    case round =>
      obtain rfl := hrel
      go_wp2
      go_ret
      exact ⟨rfl, rfl⟩
set_option maxRecDepth 100000 in
theorem byage_any (w : World) {v : Value} {T : List Int} (h : Rd w v T) (hT : T.length ≤ 1000) (p q : Int) :
    Calls Try.prog 67 #[v, .int .i64 p, .int .i64 q] w fun e w' => e = .returned (.int .i64 (agD T p q)) ∧ Below w.heap.size w w' := by
  have A := hide (ticket_any w h hT p)
  have B := hide (ticket_any w h hT q)
  have C := hide (cmp_any (tkD T p) (tkD T q) w)
  have D := hide (cmp_any p q w)
  have E := hide (or2_any _ (cmpD (tkD T p) (tkD T q)) (cmpD p q) (heap_alloc_new w (.cells #[.int .i64 (cmpD (tkD T p) (tkD T q)), .int .i64 (cmpD p q)] 3)))
  have b1 := hide (below_new w (.cells #[.int .i64 (cmpD (tkD T p) (tkD T q)), .int .i64 (cmpD p q)] 3))
  obtain ⟨r, hr⟩ : ∃ r, r = agD T p q := ⟨_, rfl⟩
  rw [← hr]
  replace hr : Hid (or2 (cmpD (tkD T p) (tkD T q)) (cmpD p q) = r) := hr.symm
  generalize cmpD (tkD T p) (tkD T q) = c1 at *
  generalize cmpD p q = c2 at *
  generalize tkD T p = t1 at *
  generalize tkD T q = t2 at *
  obtain ⟨a, cap, rfl, _⟩ := h
  go_enter Try.func67, Try.ntmps67
  go_wp2_with fail
  refine (unhide A).mono ?_
  rintro e w1 ⟨rfl, rfl⟩
  go_wp2_with fail
  refine (unhide B).mono ?_
  rintro e w2 ⟨rfl, rfl⟩
  go_wp2_with fail
  refine (unhide C).mono ?_
  rintro e w3 ⟨rfl, rfl⟩
  go_wp2_with fail
  refine (unhide D).mono ?_
  rintro e w4 ⟨rfl, rfl⟩
  go_wp2_with fail
  refine (unhide E).mono ?_
  rintro e w5 ⟨rfl, rfl⟩
  rw [unhide hr]
  go_wp2
  go_ret
  exact ⟨rfl, unhide b1⟩
end Go.Proofs.Ytjgepcifknmdhaa

/- younger, youngest, rising of the package rule. -/
namespace Go.Proofs.Ytjgepcifknmdhaa
open Go.RowKit
set_option linter.unusedVariables false

set_option maxRecDepth 100000 in
theorem younger_any (w : World) {v : Value} {T : List Int} (h : Rd w v T) (hT : T.length ≤ 1000) (p q : Int) :
    Calls Try.prog 44 #[v, .int .i64 p, .int .i64 q] w fun e w' => e = .returned (.bool (ygB T p q)) ∧ Below w.heap.size w w' := by
  have A := hide (byage_any w h hT p q)
  have r := hide (ag_yg T p q)
  obtain ⟨a, cap, rfl, _⟩ := h
  generalize agD T p q = c at *
  generalize ygB T p q = b at *
  generalize T.length = n at *
  go_enter Try.func44, Try.ntmps44
  go_wp2_with fail
  refine (unhide A).mono ?_
  rintro e w1 ⟨rfl, b1⟩
  replace b1 := hide b1
  go_wp2
  go_ret
  exact ⟨ret_bool (unhide r), unhide b1⟩
set_option maxRecDepth 100000 in
theorem clos66 (w : World) {v : Value} {T : List Int} (pt : Addr) (hp : w.cell? pt = some v) (h : Rd w v T) (hT : T.length ≤ 1000) (p q : Int) :
    Calls Try.prog 66 #[.int .i64 p, .int .i64 q, .pointer (some pt)] w fun e w' => e = .returned (.int .i64 (agD T p q)) ∧ Below w.heap.size w w' := by
  have A := hide (byage_any w h hT p q)
  obtain ⟨a, cap, rfl, _⟩ := h
  generalize agD T p q = c at *
  generalize T.length = n at *
  go_enter Try.func66, Try.ntmps66
  go_wp2_with fail
  refine (unhide A).mono ?_
  rintro e w1 ⟨rfl, b1⟩
  replace b1 := hide b1
  go_wp2
  go_ret
  exact ⟨rfl, unhide b1⟩
theorem mx_take (T : List Int) (l : List Int) (k : Nat) (h0 : 0 < k) (hk : k < l.length) : mxD T (l.take (k + 1)) = if ygB T (l.getD k 0) (mxD T (l.take k)) then l.getD k 0 else mxD T (l.take k) := by
  rw [List.take_succ_eq_append_getElem hk, mx_snoc]
  · rw [List.getD_eq_getElem?_getD, List.getElem?_eq_getElem hk]; rfl
  · intro e
    have := congrArg List.length e
    rw [List.length_take, List.length_nil] at this
    omega
theorem mx_take1 (T : List Int) (l : List Int) (h : 0 < l.length) : mxD T (l.take 1) = l.getD 0 0 := by
  cases l with
  | nil => simp at h
  | cons x r => rfl
set_option maxRecDepth 100000 in
set_option maxHeartbeats 1000000 in
theorem max66 (w : World) {v : Value} {T : List Int} (pt : Addr) (hp : w.cell? pt = some v) (h : Rd w v T) (hT : T.length ≤ 1000) {u : Value} {c : List Int} (hc : Rd w u c) (hc9 : c.length ≤ 100000) (h0 : 0 < c.length) :
    Calls Try.prog 65 #[u, .func (.func 66) #[] #[.pointer (some pt)]] w fun e w' => e = .returned (.int .i64 (mxD T c)) ∧ Below w.heap.size w w' := by
  have K : Hid (∀ W p q, Below w.heap.size w W → Calls Try.prog 66 #[.int .i64 p, .int .i64 q, .pointer (some pt)] W fun e w' => e = .returned (.int .i64 (agD T p q)) ∧ Below W.heap.size W w') := fun W p q b => clos66 W pt ((b.cell (World.block_lt_of_cell? _ _ hp)).trans hp) (h.next b) hT p q
  clear hp h
  obtain ⟨a, cap, rfl, hs⟩ := hc
  obtain ⟨b0, off, rfl, d0⟩ := seg_at hs h0
  obtain ⟨x0, hx0⟩ : ∃ x0, x0 = c.getD 0 0 := ⟨_, rfl⟩
  have m1 := mx_take1 T c h0
  rw [← hx0] at d0 m1
  rw [Nat.add_zero] at d0
  replace m1 := hide m1
  replace hx0 := hide hx0
  obtain ⟨n, hn⟩ : ∃ n, n = c.length := ⟨_, rfl⟩
  have Hs : Hid (SegK .i64 w (some ⟨b0, off, none⟩) c.length c) := hs
  clear hs
  rw [← hn] at h0 hc9 ⊢
  replace hn := hide hn
  have f1 : decide (n < 1) = false := by simp; omega
  have f2 : decide ((n : Int) < 1) = false := by simp; omega
  go_enter Try.func65, Try.ntmps65
  go_wp2
  clear d0 f1 f2
  go_loopw [5, 6] (fun s5 s6 wr => ∃ (k : Nat) (x : Int), 0 < k ∧ k ≤ n ∧ s5 = .int .i64 x ∧ s6 = .int .i64 k ∧ Hid (x = mxD T (c.take k)) ∧ Hid (Below w.heap.size w wr)) (fun _ s6 _ => n - (intOf s6).toNat)
  case atStart => exact ⟨1, x0, by omega, by omega, rfl, rfl, (unhide m1).symm, Below.refl _ _⟩
  case round =>
    obtain ⟨k, x, hk0, hk, rfl, rfl, hx, b1⟩ := hrel
    by_cases hlt : k < n
    · obtain ⟨b', off', e', d⟩ := seg_at ((unhide Hs).later (unhide b1)) (i := k) (by rw [← unhide hn]; exact hlt)
      obtain ⟨rfl, rfl⟩ : b0 = b' ∧ off = off' := by simpa using e'
      clear e'
      obtain ⟨y, hy⟩ : ∃ y, y = c.getD k 0 := ⟨_, rfl⟩
      have st := mx_take T c k hk0 (by rw [← unhide hn]; exact hlt)
      rw [← hy, ← unhide hx, ← ag_yg] at st
      rw [← hy] at d
      replace hy := hide hy
      have C := hide (unhide K wr y x (unhide b1))
      go_wp2_with fail
      refine (unhide C).mono ?_
      rintro e w2 ⟨rfl, b2⟩
      have b3 := hide (bt (unhide b1) b2 (unhide b1).size)
      have d2 := (b2.cell (World.block_lt_of_cell? _ _ d)).trans d
      clear C b2 d
      generalize agD T y x = g at *
      cases hg : decide (0 < g)
      · rw [hg, if_neg (by decide)] at st
        replace st := hide st
        go_wp2
        go_roundw
        case rel => exact ⟨k + 1, x, by omega, by omega, rfl, by go_num, (unhide st).symm, unhide b3⟩
        case measure => simp [intOf]; omega
      · rw [hg, if_pos rfl] at st
        replace st := hide st
        go_wp2
        go_roundw
        case rel => exact ⟨k + 1, y, by omega, by omega, rfl, by go_num, (unhide st).symm, unhide b3⟩
        case measure => simp [intOf]; omega
    · obtain rfl : k = n := by omega
      have e9 : Hid (x = mxD T c) := by
        have := unhide hx
        rw [unhide hn, List.take_length] at this
        exact this
      go_wp2
      go_ret
      exact ⟨ret_int (unhide e9), unhide b1⟩
set_option maxRecDepth 100000 in
theorem youngest_any (w : World) {v : Value} {T : List Int} (h : Rd w v T) (hT : T.length ≤ 1000) {u : Value} {c : List Int} (hc : Rd w u c) (hc9 : c.length ≤ 100000) (h0 : 0 < c.length) :
    Calls Try.prog 42 #[v, u] w fun e w' => e = .returned (.int .i64 (mxD T c)) ∧ Below w.heap.size w w' := by
  have b1 := hide (below_new w (.cells #[v] 23))
  have C := hide (max66 (w.alloc (.cells #[v] 23)) (T := T) ⟨w.heap.size, 0, none⟩ (World.cell?_alloc_new ..) (h.next (unhide b1)) hT (hc.next (unhide b1)) hc9 h0)
  obtain ⟨a, cap, rfl, _⟩ := h
  obtain ⟨a2, cap2, rfl, _⟩ := hc
  generalize mxD T c = m at *
  generalize T.length = n at *
  generalize c.length = n2 at *
  go_enter Try.func42, Try.ntmps42
  go_wp2_with fail
  refine (unhide C).mono ?_
  rintro e w1 ⟨rfl, b2⟩
  have b3 := hide (below_then (unhide b1) b2)
  clear b2
  go_wp2
  go_ret
  exact ⟨rfl, unhide b3⟩
set_option maxRecDepth 100000 in
theorem ris_any (w : World) {B : Nat} (hB : B ≤ w.heap.size) {v : Value} {l : List Int} (h : Is B v l w) (hl : l.length < 1000000000) :
    Calls Try.prog 45 #[v] w fun e w' => ∃ v', e = .returned v' ∧ Is B v' (canon l) w' ∧ Below B w w' := by
  have hl2 : Hid ((sortI l).length < 1000000000) := by show _ < _; rw [sortI_len]; omega
  replace hl := hide hl
  replace h := hide h
  replace hB := hide hB
  go_enter Try.func45, Try.ntmps45
  go_wp2_with fail
  refine (sort_any w (unhide h) (unhide hl)).mono ?_
  rintro e w2 ⟨rfl, I2, g2⟩
  have b2 := hide (grown_below g2 (unhide hB) (fun k hk => ((unhide h).lt k hk).1))
  replace I2 := hide I2
  clear g2
  go_wp2_with fail
  refine (compact_any w2 (unhide I2) (unhide hl2)).mono ?_
  rintro e w3 ⟨v3, rfl, I3, g3⟩
  have b3 := hide ((unhide b2).trans (grown_below g3 (Nat.le_trans (unhide hB) (unhide b2).size) (fun k hk => ((unhide I2).lt k hk).1)))
  replace I3 := hide I3
  clear g3
  go_wp2
  go_ret
  exact ⟨v3, rfl, unhide I3, unhide b3⟩
end Go.Proofs.Ytjgepcifknmdhaa

/- Wounds, Deaths, Victims, Acyclic. -/
namespace Go.Proofs.Ytjgepcifknmdhaa
open Go.RowKit
set_option linter.unusedVariables false

set_option maxRecDepth 100000 in
set_option maxHeartbeats 1000000 in
theorem wounds_any (w : World) {u v : Value} {T : List Int} {l : List En} (hu : Rd w u T) (hT : T.length ≤ 1000) (h : Re w v l) (hn : l.length ≤ 700) :
    Calls Try.prog 26 #[u, v] w fun e w' => ∃ v', e = .returned v' ∧ Is w.heap.size v' (canon (wouL T l)) w' ∧ Below w.heap.size w w' := by
  obtain ⟨a, cap, rfl⟩ := h.form
  have R := hide h
  have U : Hid (∀ W p q, Below w.heap.size w W → Calls Try.prog 44 #[u, .int .i64 p, .int .i64 q] W fun e w' => e = .returned (.bool (ygB T p q)) ∧ Below W.heap.size W w') := fun W p q b => younger_any W (hu.next b) hT p q
  clear h hu
  go_enter Try.func26, Try.ntmps26
  go_wp2
  go_loopw [5, 10] (fun s5 s10 wr => ∃ (t k : Nat) (ag : Option Addr) (cg : Nat), t ≤ l.length ∧ k ≤ t ∧ s5 = .slice ag k cg ∧ s10 = .int .i64 t ∧ Hid ((wouL T (l.take t)).length = k) ∧ Hid (Is w.heap.size (.slice ag k cg) (wouL T (l.take t)) wr) ∧ Hid (Below w.heap.size w wr)) (fun _ s10 _ => l.length - (intOf s10).toNat)
  case atStart => exact ⟨0, 0, none, 0, Nat.zero_le _, Nat.le_refl _, rfl, rfl, rfl, is_nil _ _, Below.refl _ _⟩
  case round =>
    obtain ⟨t, k, ag, cg, ht, hk, rfl, rfl, hl3, I3, b3⟩ := hrel
    have hk9 : k < 10000000 := by omega
    by_cases hlt : t < l.length
    · obtain ⟨g, o, rfl, _, d1, d2⟩ := ((unhide R).next (unhide b3)).at hlt
      obtain ⟨x, hx⟩ : ∃ x, x = l.getD t (0, 0) := ⟨_, rfl⟩
      have hs := wou_succ T l t hlt
      rw [← hx] at d1 d2 hs
      replace hx := hide hx
      have b4 := hide (below_then (unhide b3) (below_new wr (.cells #[.int .i64 x.1, .int .i64 x.2] 41)))
      have C := hide (unhide U _ x.2 x.1 (unhide b4))
      have I4 := hide ((unhide I3).next (below_new wr (.cells #[.int .i64 x.1, .int .i64 x.2] 41)))
      have o4 : (wr.alloc (.cells #[.int .i64 x.1, .int .i64 x.2] 41)).heap[wr.heap.size]? = some (.cells #[.int .i64 x.1, .int .i64 x.2] 41 (0, 0)) := heap_alloc_new wr _
      obtain ⟨W4, hW4⟩ : ∃ W4, W4 = wr.alloc (.cells #[.int .i64 x.1, .int .i64 x.2] 41) := ⟨_, rfl⟩
      rw [← hW4] at b4 C I4 o4
      replace o4 := hide o4
      go_wp2_with fail
      rw [← hW4]
      replace hW4 := hide hW4
      refine (unhide C).mono ?_
      rintro e w5 ⟨rfl, b5⟩
      have o5 := (b5.block _ (heap_lt (unhide o4))).trans (unhide o4)
      have d5 : w5.cell? ⟨wr.heap.size, 1, none⟩ = some (.int .i64 x.2) := by simp [World.cell?, o5]
      have I5 := hide ((unhide I4).next b5)
      have b6 := hide (below_then (unhide b4) b5)
      have hb5 : Hid (w.heap.size ≤ w5.heap.size) := (unhide b6).size
      clear o5 b5 C o4 d1 d2 I4
      cases hq : ygB T x.2 x.1
      · rw [hq, if_neg (by decide), List.append_nil] at hs
        replace hs := hide hs
        go_wp2
        go_roundw
        case rel => exact ⟨t + 1, k, ag, cg, by omega, by omega, rfl, by go_num, by rw [unhide hs]; exact unhide hl3, by rw [unhide hs]; exact unhide I5, unhide b6⟩
        case measure => simp [intOf]; omega
      · rw [hq, if_pos rfl] at hs
        replace hs := hide hs
        go_wp2_with (at_builtin; refine wpList_push w5 rfl (.tmp 20) (.tmp 23) rfl w.heap.size ag k cg _ x.2 _ rfl rfl rfl (unhide hl3) (unhide I5) (unhide hb5) hk9 ?_; intro g5 cap5 w5 a1 a2; replace a1 := hide a1; replace a2 := hide a2)
        go_roundw
        case rel => exact ⟨t + 1, k + 1, some ⟨g5, 0, none⟩, cap5, by omega, by omega, rfl, by go_num, by
          show _ = _
          rw [unhide hs, List.length_append, unhide hl3]; rfl, by rw [unhide hs]; exact unhide a1, (unhide b6).grown (unhide a2) (unhide b6).size (fun k hk => ((unhide I5).lt k hk).1)⟩
        case measure => simp [intOf]; omega
    · obtain rfl : t = l.length := by omega
      rw [List.take_length] at I3 hl3
      have hl4 : Hid ((wouL T l).length < 1000000000) := by have := unhide hl3; show _ < _; omega
      go_wp2_with fail
      refine (ris_any wr (unhide b3).size (unhide I3) (unhide hl4)).mono ?_
      rintro e w5 ⟨v5, rfl, I5, b5⟩
      have b6 := hide ((unhide b3).trans b5)
      replace I5 := hide I5
      clear b5
      go_wp2
      go_ret
      exact ⟨v5, rfl, unhide I5, unhide b6⟩
set_option maxRecDepth 100000 in
set_option maxHeartbeats 1000000 in
theorem deaths_any (w : World) {u v : Value} {T : List Int} {l : List En} (hu : Rd w u T) (hT : T.length ≤ 1000) (h : Re w v l) (hn : l.length ≤ 700) :
    Calls Try.prog 28 #[u, v] w fun e w' => ∃ v', e = .returned v' ∧ Is w.heap.size v' (canon (deaL T l)) w' ∧ Below w.heap.size w w' := by
  obtain ⟨a, cap, rfl⟩ := h.form
  have R := hide h
  have U : Hid (∀ W p q, Below w.heap.size w W → Calls Try.prog 44 #[u, .int .i64 p, .int .i64 q] W fun e w' => e = .returned (.bool (ygB T p q)) ∧ Below W.heap.size W w') := fun W p q b => younger_any W (hu.next b) hT p q
  clear h hu
  go_enter Try.func28, Try.ntmps28
  go_wp2
  go_loopw [5, 10] (fun s5 s10 wr => ∃ (t k : Nat) (ag : Option Addr) (cg : Nat), t ≤ l.length ∧ k ≤ t ∧ s5 = .slice ag k cg ∧ s10 = .int .i64 t ∧ Hid ((deaL T (l.take t)).length = k) ∧ Hid (Is w.heap.size (.slice ag k cg) (deaL T (l.take t)) wr) ∧ Hid (Below w.heap.size w wr)) (fun _ s10 _ => l.length - (intOf s10).toNat)
  case atStart => exact ⟨0, 0, none, 0, Nat.zero_le _, Nat.le_refl _, rfl, rfl, rfl, is_nil _ _, Below.refl _ _⟩
  case round =>
    obtain ⟨t, k, ag, cg, ht, hk, rfl, rfl, hl3, I3, b3⟩ := hrel
    have hk9 : k < 10000000 := by omega
    by_cases hlt : t < l.length
    · obtain ⟨g, o, rfl, _, d1, d2⟩ := ((unhide R).next (unhide b3)).at hlt
      obtain ⟨x, hx⟩ : ∃ x, x = l.getD t (0, 0) := ⟨_, rfl⟩
      have hs := dea_succ T l t hlt
      rw [← hx] at d1 d2 hs
      replace hx := hide hx
      have b4 := hide (below_then (unhide b3) (below_new wr (.cells #[.int .i64 x.1, .int .i64 x.2] 41)))
      have C := hide (unhide U _ x.1 x.2 (unhide b4))
      have I4 := hide ((unhide I3).next (below_new wr (.cells #[.int .i64 x.1, .int .i64 x.2] 41)))
      have o4 : (wr.alloc (.cells #[.int .i64 x.1, .int .i64 x.2] 41)).heap[wr.heap.size]? = some (.cells #[.int .i64 x.1, .int .i64 x.2] 41 (0, 0)) := heap_alloc_new wr _
      obtain ⟨W4, hW4⟩ : ∃ W4, W4 = wr.alloc (.cells #[.int .i64 x.1, .int .i64 x.2] 41) := ⟨_, rfl⟩
      rw [← hW4] at b4 C I4 o4
      replace o4 := hide o4
      go_wp2_with fail
      rw [← hW4]
      replace hW4 := hide hW4
      refine (unhide C).mono ?_
      rintro e w5 ⟨rfl, b5⟩
      have o5 := (b5.block _ (heap_lt (unhide o4))).trans (unhide o4)
      have d5 : w5.cell? ⟨wr.heap.size, 0, none⟩ = some (.int .i64 x.1) := by simp [World.cell?, o5]
      have I5 := hide ((unhide I4).next b5)
      have b6 := hide (below_then (unhide b4) b5)
      have hb5 : Hid (w.heap.size ≤ w5.heap.size) := (unhide b6).size
      clear o5 b5 C o4 d1 d2 I4
      cases hq : ygB T x.1 x.2
      · rw [hq, if_neg (by decide), List.append_nil] at hs
        replace hs := hide hs
        go_wp2
        go_roundw
        case rel => exact ⟨t + 1, k, ag, cg, by omega, by omega, rfl, by go_num, by rw [unhide hs]; exact unhide hl3, by rw [unhide hs]; exact unhide I5, unhide b6⟩
        case measure => simp [intOf]; omega
      · rw [hq, if_pos rfl] at hs
        replace hs := hide hs
        go_wp2_with (at_builtin; refine wpList_push w5 rfl (.tmp 20) (.tmp 23) rfl w.heap.size ag k cg _ x.1 _ rfl rfl rfl (unhide hl3) (unhide I5) (unhide hb5) hk9 ?_; intro g5 cap5 w5 a1 a2; replace a1 := hide a1; replace a2 := hide a2)
        go_roundw
        case rel => exact ⟨t + 1, k + 1, some ⟨g5, 0, none⟩, cap5, by omega, by omega, rfl, by go_num, by
          show _ = _
          rw [unhide hs, List.length_append, unhide hl3]; rfl, by rw [unhide hs]; exact unhide a1, (unhide b6).grown (unhide a2) (unhide b6).size (fun k hk => ((unhide I5).lt k hk).1)⟩
        case measure => simp [intOf]; omega
    · obtain rfl : t = l.length := by omega
      rw [List.take_length] at I3 hl3
      have hl4 : Hid ((deaL T l).length < 1000000000) := by have := unhide hl3; show _ < _; omega
      go_wp2_with fail
      refine (ris_any wr (unhide b3).size (unhide I3) (unhide hl4)).mono ?_
      rintro e w5 ⟨v5, rfl, I5, b5⟩
      have b6 := hide ((unhide b3).trans b5)
      replace I5 := hide I5
      clear b5
      go_wp2
      go_ret
      exact ⟨v5, rfl, unhide I5, unhide b6⟩
/-- How long a slice is. -/
def lenOf : Value → Nat
  | .slice _ n _ => n
  | _ => 0
theorem nat_eq0 (m : Nat) : ((m : Int) == 0) = (m == 0) := by rw [Bool.eq_iff_iff]; simp
set_option maxRecDepth 100000 in
theorem acyclic_any (w : World) {v : Value} {l : List En} (h : Re w v l) (hn : l.length ≤ 300) :
    Calls Try.prog 30 #[v] w fun e w' => e = .returned (.bool ((circD l).length == 0)) ∧ Below w.heap.size w w' := by
  have C := hide (circle_any w h hn)
  obtain ⟨a, cap, rfl⟩ := h.form
  generalize l.length = n at *
  clear h
  obtain ⟨m, hm⟩ : ∃ m, m = (circD l).length := ⟨_, rfl⟩
  rw [← hm]
  go_enter Try.func30, Try.ntmps30
  go_wp2_with fail
  refine (unhide C).mono ?_
  rintro e w1 ⟨ov, rfl, i1, _, _, b1⟩
  obtain ⟨a1, c1, rfl⟩ := i1.form
  rw [← hm]
  replace b1 := hide b1
  clear i1 C hm
  go_wp2
  go_ret
  exact ⟨ret_bool (nat_eq0 m), unhide b1⟩
/-- Edges that lie in the old world, or in a row of edges of our own. -/
def Rx (w : World) (v : Value) (m : List En) (wr : World) : Prop := Re w v m ∨ Pr 41 w.heap.size v m wr
theorem Rx.re {w wr : World} {v : Value} {m : List En} (h : Rx w v m wr) (b : Below w.heap.size w wr) : Re wr v m := by
  rcases h with h | h
  · exact h.next b
  · exact h.re
theorem Rx.next {w wr w' : World} {v : Value} {m : List En} (h : Rx w v m wr) (b : Below wr.heap.size wr w') : Rx w v m w' := by
  rcases h with h | h
  · exact .inl h
  · exact .inr (h.next b)
theorem Rx.app {w wr w' : World} {v z : Value} {m : List En} {out : List Int} (h : Rx w v m wr) (i : Is w.heap.size z out wr) (g : wr.grownBy w' z.ownBlock) : Rx w v m w' := by
  rcases h with h | h
  · exact .inl h
  · refine .inr (h.keep fun k hk => g.block k (h.lt k hk).2 fun e => ?_)
    obtain ⟨c1, h1⟩ := h.ty k hk
    obtain ⟨c2, h2⟩ := i.ty k e.symm
    rw [h1] at h2
    injection h2 with h2
    injection h2 with _ h2 _
    exact absurd h2 (by decide)
set_option maxRecDepth 100000 in
set_option maxHeartbeats 1000000 in
theorem victims_any (w : World) {u v : Value} {T : List Int} {l : List En} (hu : Rd w u T) (hT : T.length ≤ 1000) (h : Re w v l) (hn : l.length ≤ 300) :
    Calls Try.prog 24 #[u, v] w fun e w' => ∃ v', e = .returned v' ∧ Is w.heap.size v' (vicD T l) w' ∧ Below w.heap.size w w' := by
  obtain ⟨a, cap, rfl⟩ := h.form
  have R := hide h
  have U := hide hu
  clear h hu
  have fin0 : Hid (vicD T l = [] ++ vicD T l) := rfl
  go_enter Try.func24, Try.ntmps24
  go_wp2
  go_loopw [5, 1] (fun s5 s1 wr => ∃ (k n : Nat) (ag a1 : Option Addr) (cg c1 : Nat) (out : List Int) (m : List En), k + n ≤ l.length ∧ s5 = .slice ag k cg ∧ s1 = .slice a1 n c1 ∧ Hid (out.length = k) ∧ Hid (m.length = n) ∧ Hid (vicD T l = out ++ vicD T m) ∧ Hid (Is w.heap.size (.slice ag k cg) out wr) ∧ Hid (Rx w (.slice a1 n c1) m wr) ∧ Hid (Below w.heap.size w wr)) (fun _ s1 _ => lenOf s1)
  case atStart => exact ⟨0, l.length, none, a, 0, cap, [], l, by omega, rfl, rfl, rfl, rfl, unhide fin0, is_nil _ _, .inl (unhide R), Below.refl _ _⟩
  case round =>
    obtain ⟨k, n, ag, a1, cg, c1, out, m, hkn, rfl, rfl, ho, hm, hv, I3, R3, b3⟩ := hrel
    have C := hide (circle_any wr ((unhide R3).re (unhide b3)) (by rw [unhide hm]; omega))
    go_wp2_with fail
    refine (unhide C).mono ?_
    rintro e w4 ⟨ov, rfl, i4, hc, hc9, b4⟩
    obtain ⟨a4, c4, rfl⟩ := i4.form
    have I4 := hide ((unhide I3).next b4)
    have R4 := hide ((unhide R3).next b4)
    have b5 := hide (bt (unhide b3) b4 (unhide b3).size)
    have U5 := hide ((unhide U).next (unhide b5))
    obtain ⟨q, hq⟩ : ∃ q, q = (circD m).length := ⟨_, rfl⟩
    rw [← hq] at i4 ⊢
    clear b4 hc C I3 R3
    by_cases h0 : q = 0
    · subst h0
      have e0 : circD m = [] := List.eq_nil_of_length_eq_zero hq.symm
      have fin := unhide hv
      rw [vic_no e0, List.append_nil] at fin
      replace fin := hide fin
      clear i4 hq hc9 e0
      go_wp2
      go_ret
      exact ⟨_, rfl, by rw [unhide fin]; exact unhide I4, unhide b5⟩
    · have hne : circD m ≠ [] := by
        intro e
        rw [e] at hq
        exact h0 hq
      have hb : ((q : Int) == 0) = false := beq_eq_false_iff_ne.2 (by omega)
      have hless := wo_less (mx_on (T := T) hne)
      have fin := unhide hv
      rw [vic_yes hne] at fin
      have Y := youngest_any w4 (unhide U5) hT (u := .slice a4 q c4) (c := circD m) (by have := i4.rd; exact this) (by omega) (by omega)
      obtain ⟨y, hy⟩ : ∃ y, y = mxD T (circD m) := ⟨_, rfl⟩
      rw [← hy] at hless fin Y
      replace hy := hide hy
      replace Y := hide Y
      replace fin := hide fin
      have hless2 : Hid ((woL [y] m).length < n) := by show _ < _; rw [← unhide hm]; exact hless
      have hb2 : (q == 0) = false := beq_eq_false_iff_ne.2 h0
      clear hless hq hc9 hne
      go_wp2_with fail
      refine (unhide Y).mono ?_
      rintro e w6 ⟨rfl, b6⟩
      have I6 := hide ((unhide I4).next b6)
      have R6 := hide ((unhide R4).next b6)
      have b7 := hide (bt (unhide b5) b6 (unhide b5).size)
      have hb7 : Hid (w.heap.size ≤ w6.heap.size) := (unhide b7).size
      have hk9 : k < 10000000 := by omega
      clear b6 I4 R4 Y U5 i4
      go_wp2_with (at_builtin; refine wpList_push w6 rfl (.tmp 17) (.tmp 19) rfl w.heap.size ag k cg _ y _ rfl rfl rfl (unhide ho) (unhide I6) (unhide hb7) hk9 ?_; intro g5 cap5 w8 a8 a9; replace a8 := hide a8; replace a9 := hide a9)
      have R8 := hide ((unhide R6).app (unhide I6) (unhide a9))
      have b8 := hide ((unhide b7).grown (unhide a9) (unhide b7).size (fun k hk => ((unhide I6).lt k hk).1))
      have bn := below_new w8 (.cells #[.int .i64 y] 3)
      have b9 := hide (bt (unhide b8) bn (unhide b8).size)
      have W := hide (without_any _ (u := .slice (some ⟨w8.heap.size, 0, none⟩) 1 1) (gone := [y]) (rd_one w8 y) (fun n c e => by cases e) (by show 1 ≤ 1500; decide) (((unhide R8).next bn).re (unhide b9)) (by rw [unhide hm]; omega))
      have I9 := hide ((unhide a8).next bn)
      obtain ⟨W9, hW9⟩ : ∃ W9, W9 = w8.alloc (.cells #[.int .i64 y] 3) := ⟨_, rfl⟩
      rw [← hW9] at W I9 b9 ⊢
      replace hW9 := hide hW9
      clear bn
      refine (unhide W).mono ?_
      rintro e w10 ⟨v10, rfl, p10, b10⟩
      obtain ⟨a10, c10, rfl⟩ := p10.form
      have b11 := hide (bt (unhide b9) b10 (unhide b9).size)
      have I11 := hide ((unhide I9).next b10)
      have R11 := hide (p10.down (unhide b9).size)
      obtain ⟨n2, hn2⟩ : ∃ n2, n2 = (woL [y] m).length := ⟨_, rfl⟩
      rw [← hn2] at R11 ⊢
      have hlt := unhide hless2
      rw [← hn2] at hlt
      replace hn2 := hide hn2
      clear p10 b10 W I9 R8 R6 I6 a9 hless2
      go_wp2
      go_roundw
      case rel => exact ⟨k + 1, n2, some ⟨g5, 0, none⟩, a10, cap5, c10, out ++ [y], woL [y] m, by omega, rfl, rfl, by show _ = _; rw [List.length_append, unhide ho]; rfl, (unhide hn2).symm, by rw [unhide fin]; simp [Hid], unhide I11, .inr (unhide R11), unhide b11⟩
      case measure => simp [lenOf]; omega
end Go.Proofs.Ytjgepcifknmdhaa

/- first of the laws of rule. -/
namespace Go.Proofs.Ytjgepcifknmdhaa
open Go.RowKit
set_option linter.unusedVariables false

theorem vic_two : vicD [0, 5, 6] [(1, 2), (2, 1)] = [2] := by
  have h1 : circD [(1, 2), (2, 1)] ≠ [] := by rw [circ_two]; decide
  have h2 : mxD [0, 5, 6] [1, 2] = 2 := by decide +kernel
  have h3 : woL [2] [(1, 2), (2, 1)] = [] := by decide +kernel
  rw [vic_yes h1, circ_two, h2, h3, vic_no circ_none]
theorem seg3 (w : World) (x y z : Int) : SegK .i64 (w.alloc (.cells #[.int .i64 x, .int .i64 y, .int .i64 z] 3)) (some ⟨w.heap.size, 0, none⟩) 3 [x, y, z] := seg_new w [x, y, z]
set_option maxRecDepth 100000 in
theorem frs_any (w : World) : Calls Try.prog 23 #[] w fun e w' => e = .returned (.bool true) ∧ Below w.heap.size w w' := by
  obtain ⟨W1, hW1⟩ : ∃ W1, W1 = w.alloc (.cells #[.int .i64 0, .int .i64 5, .int .i64 6] 3) := ⟨_, rfl⟩
  have b1 := hide (below_new w (.cells #[.int .i64 0, .int .i64 5, .int .i64 6] 3))
  have s1 : Rd W1 (.slice (some ⟨w.heap.size, 0, none⟩) 3 3) [0, 5, 6] := by rw [hW1]; exact ⟨_, 3, rfl, seg3 w 0 5 6⟩
  rw [← hW1] at b1
  have n1 : W1.heap.size = w.heap.size + 1 := by rw [hW1]; simp
  have r2 := re_two W1
  have b2 := below_new W1 (.cells #[.int .i64 1, .int .i64 2, .int .i64 2, .int .i64 1] 41)
  have C1 := hide (victims_any _ (s1.next b2) (by show 3 ≤ 1000; decide) r2 (by decide))
  rw [vic_two, n1] at C1
  have b3 := hide (below_then (unhide b1) b2)
  rw [hW1] at C1 b3
  clear b1 b2 r2 s1 n1 hW1 W1
  go_enter Try.func23, Try.ntmps23
  go_wp2_with fail
  refine (unhide C1).mono ?_
  rintro e w1 ⟨ov, rfl, i1, b4⟩
  have b5 := hide (below_then (unhide b3) b4)
  have C2 := hide (ints_any ov (.slice (some ⟨w1.heap.size, 0, none⟩) 1 1) [2] [2] _ (i1.rd.next (below_new w1 (.cells #[.int .i64 2] 3))) (rd_one w1 2) (by decide) (by decide))
  have b6 := hide (below_add (unhide b5) (.cells #[.int .i64 2] 3))
  rw [show (([2] : List Int) == [2]) = true from rfl] at C2
  clear i1 b4 C1
  go_wp2_with fail
  refine (unhide C2).mono ?_
  rintro e w2 ⟨rfl, b7⟩
  have b8 := hide (below_then (unhide b6) b7)
  clear b7 C2
  go_wp2
  go_ret
  exact ⟨rfl, unhide b8⟩
end Go.Proofs.Ytjgepcifknmdhaa
