/- Texts of this claim, put together in their order. -/
import Derived.Laws.Rows
import Derived.Test.YtjgepcifknmdhaaBase1
import Derived.Test.YtjgepcifknmdhaaBase2
/- The walk that enters each place once, on to the lowest that is left, back where none is left: plain words. -/
namespace Go.Proofs.Ytjgepcifknmdhaa

/-- .. but v at k. -/
def upd {β : Type} (f : Nat → β) (k : Nat) (v : β) : Nat → β := fun i => if i = k then v else f i
theorem upd_same {β : Type} (f : Nat → β) (k : Nat) (v : β) : upd f k v k = v := if_pos rfl
theorem upd_other {β : Type} (f : Nat → β) {i k : Nat} (v : β) (h : i ≠ k) : upd f k v i = f i := if_neg h
/-- The edges: from p to those of nx p. -/
def Ed (nx : Nat → List Nat) (p q : Nat) : Prop := q ∈ nx p
/-- On the way, but not s. -/
def Fo (s : Nat) (P : List Nat) : Nat → Prop := fun x => x ∈ P ∧ x ≠ s
theorem fo_snoc (s v : Nat) (p : List Nat) (hv : v ≠ s) : Fo s (p ++ [v]) = fun x => Fo s p x ∨ x = v := by
  funext x
  apply propext
  unfold Fo
  rw [List.mem_append, List.mem_singleton]
  constructor
  · rintro ⟨h | h, k⟩
    · exact .inl ⟨h, k⟩
    · exact .inr h
  · rintro (⟨h, k⟩ | rfl)
    · exact ⟨.inl h, k⟩
    · exact ⟨.inr rfl, hv⟩

/-- The way so far: whoever was tried ahead of the next one of it is no s and on the way, or does not lead back. -/
inductive Trail (nx : Nat → List Nat) (s : Nat) (LF : Nat → List Nat) : List Nat → Prop
  | one : Trail nx s LF [s]
  | more {p : List Nat} {v m : Nat} : Trail nx s LF (p ++ [v]) → (∃ pre, nx v = pre ++ m :: LF v ∧ ∀ t ∈ pre, t ≠ s ∧ (t ∈ p ++ [v] ∨ ¬ Av (Ed nx) (Fo s (p ++ [v])) t s)) → m ≠ s → m ∉ p ++ [v] → Trail nx s LF (p ++ [v] ++ [m])
theorem Trail.congr {nx : Nat → List Nat} {s : Nat} {LF LF' : Nat → List Nat} {c : List Nat} (h : Trail nx s LF c) : ∀ q v, c = q ++ [v] → (∀ x ∈ q, LF' x = LF x) → Trail nx s LF' c := by
  induction h with
  | one => intro _ _ _ _; exact .one
  | @more p v m _ hp h1 h2 ih =>
    intro q u e k
    obtain ⟨e1, e2⟩ := snoc_inj e
    subst e1 e2
    refine .more (ih p v rfl (fun x hx => k x (List.mem_append_left _ hx))) ?_ h1 h2
    rw [k v (by simp)]
    exact hp
theorem Trail.one_inv {nx : Nat → List Nat} {s v : Nat} {LF : Nat → List Nat} (h : Trail nx s LF ([] ++ [v])) : v = s := by
  generalize e : [] ++ [v] = c at h
  cases h with
  | one => simpa using e
  | more => have := congrArg List.length e; simp at this
theorem Trail.inv {nx : Nat → List Nat} {s u v : Nat} {LF : Nat → List Nat} {p : List Nat} (h : Trail nx s LF (p ++ [u] ++ [v])) :
    Trail nx s LF (p ++ [u]) ∧ (∃ pre, nx u = pre ++ v :: LF u ∧ ∀ t ∈ pre, t ≠ s ∧ (t ∈ p ++ [u] ∨ ¬ Av (Ed nx) (Fo s (p ++ [u])) t s)) ∧ v ≠ s ∧ v ∉ p ++ [u] := by
  generalize e : p ++ [u] ++ [v] = c at h
  cases h with
  | one => have := congrArg List.length e; simp at this
  | more h1 h2 h3 h4 =>
    obtain ⟨e1, e2⟩ := snoc_inj e
    obtain ⟨e3, e4⟩ := snoc_inj e1
    subst e3 e4 e2
    exact ⟨h1, h2, h3, h4⟩
theorem Trail.edges {nx : Nat → List Nat} {s : Nat} {LF : Nat → List Nat} {c : List Nat} (h : Trail nx s LF c) : ∀ x ∈ c, Rch (Ed nx) s x := by
  induction h with
  | one => intro x hx; rw [List.mem_singleton.1 hx]; exact Rch.refl _ _
  | @more p v m _ hp _ _ ih =>
    intro x hx
    rcases List.mem_append.1 hx with h | h
    · exact ih x h
    · rw [List.mem_singleton.1 h]
      obtain ⟨pre, e, _⟩ := hp
      exact Av.snoc (b := v) (ih v (by simp)) (by unfold Ed; rw [e]; simp) id
/-- The walk stands at v, behind p. -/
structure Sw (nx : Nat → List Nat) (s : Nat) (LF : Nat → List Nat) (En : Nat → Bool) (p : List Nat) (v : Nat) : Prop where
  tr : Trail nx s LF (p ++ [v])
  top : ∃ pre, nx v = pre ++ LF v ∧ ∀ t ∈ pre, t ≠ s ∧ (t ∈ p ++ [v] ∨ ¬ Av (Ed nx) (Fo s (p ++ [v])) t s)
  dead : ∀ d, En d = true → d ∈ p ++ [v] ∨ ¬ Av (Ed nx) (Fo s (p ++ [v])) d s
  on : ∀ x ∈ p ++ [v], En x = true
  new : ∀ x, En x = false → LF x = nx x
  nd : (p ++ [v]).Nodup
namespace Sw
variable {nx : Nat → List Nat} {s : Nat} {LF : Nat → List Nat} {En : Nat → Bool} {p : List Nat} {v : Nat}
theorem start (nx : Nat → List Nat) (s : Nat) : Sw nx s nx (upd (fun _ => false) s true) [] s := by
  refine ⟨.one, ⟨[], rfl, fun t ht => (by cases ht)⟩, fun d hd => .inl ?_, fun x hx => ?_, fun _ _ => rfl, by simp⟩
  · unfold upd at hd
    split at hd
    · simp_all
    · cases hd
  · obtain rfl : x = s := by simpa using hx
    exact upd_same _ _ _
theorem v_notin (h : Sw nx s LF En p v) : v ∉ p := by
  have := h.nd
  rw [List.nodup_append] at this
  exact fun k => this.2.2 v k v (by simp) rfl
theorem tr_upd (h : Sw nx s LF En p v) (r : List Nat) : Trail nx s (upd LF v r) (p ++ [v]) :=
  h.tr.congr p v rfl (fun _ hx => upd_other _ _ (fun e => h.v_notin (e ▸ hx)))
theorem again (h : Sw nx s LF En p v) {t : Nat} {r : List Nat} (e : LF v = t :: r) (ht : t ≠ s) (hE : En t = true) : Sw nx s (upd LF v r) En p v := by
  obtain ⟨pre, e1, e2⟩ := h.top
  refine ⟨h.tr_upd r, ⟨pre ++ [t], by rw [upd_same, e1, e]; simp, fun x hx => ?_⟩, h.dead, h.on, fun x hx => ?_, h.nd⟩
  · rcases List.mem_append.1 hx with k | k
    · exact e2 x k
    · rw [List.mem_singleton.1 k]
      exact ⟨ht, h.dead t hE⟩
  · rw [upd_other]
    · exact h.new x hx
    · rintro rfl
      rw [h.on x (by simp)] at hx
      cases hx
theorem go (h : Sw nx s LF En p v) {t : Nat} {r : List Nat} (e : LF v = t :: r) (ht : t ≠ s) (hE : En t = false) : Sw nx s (upd LF v r) (upd En t true) (p ++ [v]) t := by
  obtain ⟨pre, e1, e2⟩ := h.top
  have hn : t ∉ p ++ [v] := fun k => by rw [h.on t k] at hE; cases hE
  have htv : t ≠ v := fun k => hn (by rw [k]; simp)
  have hmono : ∀ d, ¬ Av (Ed nx) (Fo s (p ++ [v])) d s → ¬ Av (Ed nx) (Fo s (p ++ [v] ++ [t])) d s := fun d k q => k (q.mono (fun x hx => ⟨List.mem_append_left _ hx.1, hx.2⟩) (fun _ _ e => e))
  refine ⟨.more (h.tr_upd r) ⟨pre, by rw [upd_same, e1, e], e2⟩ ht hn, ⟨[], ?_, fun t ht => (by cases ht)⟩, fun d hd => ?_, fun x hx => ?_, fun x hx => ?_, ?_⟩
  · rw [upd_other _ _ htv, h.new t hE]; rfl
  · by_cases k : d = t
    · exact .inl (by rw [k]; simp)
    · rw [upd_other _ _ k] at hd
      rcases h.dead d hd with q | q
      · exact .inl (List.mem_append_left _ q)
      · exact .inr (hmono d q)
  · by_cases k : x = t
    · rw [k]; exact upd_same _ _ _
    · rw [upd_other _ _ k]
      refine h.on x ?_
      rcases List.mem_append.1 hx with q | q
      · exact q
      · exact absurd (List.mem_singleton.1 q) k
  · by_cases k : x = t
    · rw [k, upd_same] at hx; cases hx
    · rw [upd_other _ _ k] at hx
      rw [upd_other]
      · exact h.new x hx
      · rintro rfl
        rw [h.on x (by simp)] at hx
        cases hx
  · rw [List.nodup_append]
    refine ⟨h.nd, by simp, fun a ha b hb q => hn ?_⟩
    rw [← List.mem_singleton.1 hb, ← q]
    exact ha
/-- Nobody of v's next ones leads back but through the way. -/
theorem spent (h : Sw nx s LF En p v) (e : LF v = []) (hv : v ≠ s) : ∀ d, ¬ Av (Ed nx) (Fo s (p ++ [v])) d s → ¬ Av (Ed nx) (Fo s p) d s := by
  obtain ⟨pre, e1, e2⟩ := h.top
  rw [e, List.append_nil] at e1
  intro d k q
  rcases q.last v with q | q | ⟨t, q1, q2⟩
  · rw [← fo_snoc s v p hv] at q
    exact k q
  · exact hv q
  · rw [← fo_snoc s v p hv] at q2
    unfold Ed at q1
    rw [e1] at q1
    obtain ⟨n1, n2⟩ := e2 t q1
    rcases n2 with n2 | n2
    · exact q2.fst ⟨n2, n1⟩
    · exact n2 q2
theorem spent_v (h : Sw nx s LF En p v) (e : LF v = []) (hv : v ≠ s) : ¬ Av (Ed nx) (Fo s p) v s := by
  refine h.spent e hv v (fun q => q.fst ⟨by simp, hv⟩)
theorem back {u : Nat} (h : Sw nx s LF En (p ++ [u]) v) (e : LF v = []) : Sw nx s LF En p u := by
  obtain ⟨t1, ⟨pre, t2, t2b⟩, t3, t4⟩ := h.tr.inv
  refine ⟨t1, ⟨pre ++ [v], by rw [t2]; simp, fun t ht => ?_⟩, fun d hd => ?_, fun x hx => h.on x (List.mem_append_left _ hx), h.new, ?_⟩
  · rcases List.mem_append.1 ht with k | k
    · exact t2b t k
    · rw [List.mem_singleton.1 k]
      exact ⟨t3, .inr (h.spent_v e t3)⟩
  · rcases h.dead d hd with k | k
    · rcases List.mem_append.1 k with k | k
      · exact .inl k
      · rw [List.mem_singleton.1 k]
        exact .inr (h.spent_v e t3)
    · exact .inr (h.spent e t3 d k)
  · have := h.nd
    rw [List.nodup_append] at this
    exact this.1
theorem none (h : Sw nx s LF En [] v) (e : LF v = []) : ¬ On (Ed nx) s := by
  have hv := h.tr.one_inv
  obtain ⟨pre, e1, e2⟩ := h.top
  rw [e, List.append_nil] at e1
  rintro ⟨t, q1, q2⟩
  unfold Ed at q1
  rw [← hv, e1] at q1
  obtain ⟨n1, n2⟩ := e2 t q1
  rcases n2 with n2 | n2
  · rw [List.nil_append, List.mem_singleton, hv] at n2
    exact n1 n2
  · refine n2 (Av.mono (A := fun _ => False) q2 (fun x hx => ?_) (fun _ _ e => e))
    have := hx.1
    rw [List.nil_append, List.mem_singleton, hv] at this
    exact hx.2 this
theorem found_on (h : Sw nx s LF En p v) {r : List Nat} (e : LF v = s :: r) : On (Ed nx) s := by
  obtain ⟨pre, e1, _⟩ := h.top
  exact on_of (h.tr.edges v (by simp)) (by unfold Ed; rw [e1, e]; simp)
end Sw
/-- Rising, with repetitions. -/
def Ris (l : List Nat) : Prop := l.Pairwise (· ≤ ·)
/-- The way that was found is the document's, where s is the lowest on a circle. -/
theorem trail_way {nx : Nat → List Nat} {s : Nat} {LF : Nat → List Nat} (hs : ∀ x, Ris (nx x)) (hl : ∀ x, On (Ed nx) x → s ≤ x) {c : List Nat} (h : Trail nx s LF c) :
    ∀ q v, c = q ++ [v] → (∀ m ∈ c, Rch (Ed nx) m s) → (∀ a m b, c = a ++ m :: b → Av (Ed nx) (Fo s a) m s) → Way (Ed nx) s c := by
  induction h with
  | one => intro _ _ _ _ _; exact .one
  | @more p v m ht hp h1 h2 ih =>
    intro q u e k1 k2
    obtain ⟨pre, e1, e2⟩ := hp
    have evm : Ed nx v m := by unfold Ed; rw [e1]; simp
    have hsv : Rch (Ed nx) s v := ht.edges v (by simp)
    have hav := k2 (p ++ [v]) m [] (by simp)
    have hris := hs v
    rw [e1] at hris
    unfold Ris at hris
    rw [List.pairwise_append] at hris
    have hle : ∀ x ∈ LF v, m ≤ x := (List.pairwise_cons.1 hris.2.1).1
    refine .more (ih p v rfl (fun x hx => k1 x (List.mem_append_left _ hx)) (fun a x b e3 => ?_)) (fun k => ?_) evm h2 hav (fun m' g1 g2 g3 g4 => ?_)
    · exact k2 a x (b ++ [m]) (by rw [e3]; simp)
    · unfold Ed at k
      rw [e1] at k
      rcases List.mem_append.1 k with k | k
      · exact (e2 s k).1 rfl
      · rcases List.mem_cons.1 k with k | k
        · exact h1 k.symm
        · have hms := hle s k
          have hon : On (Ed nx) m := by
            have : Rch (Ed nx) m v := (k1 m (by simp)).trans hsv
            exact on_of this evm
          have := hl m hon
          exact h1 (by omega)
    · unfold Ed at g2
      rw [e1] at g2
      rcases List.mem_append.1 g2 with k | k
      · rcases (e2 m' k).2 with q | q
        · exact g3 q
        · exact q g4
      · rcases List.mem_cons.1 k with k | k
        · omega
        · have := hle m' k; omega
/-- From each one of the way to its last one. -/
theorem trail_on {nx : Nat → List Nat} {s : Nat} {LF : Nat → List Nat} {c : List Nat} (h : Trail nx s LF c) : ∀ (a : List Nat) (m : Nat) (b : List Nat) (q : List Nat) (v : Nat), c = a ++ m :: b → c = q ++ [v] → Av (Ed nx) (Fo s a) m v := by
  induction h with
  | one =>
    intro a m b q v h1 h2
    have e1 : a = [] := by
      cases a with
      | nil => rfl
      | cons x y => simp at h1
    subst e1
    have e2 : q = [] := by
      cases q with
      | nil => rfl
      | cons x y => simp at h2
    subst e2
    simp at h1 h2
    rw [← h1.1, ← h2]
    exact .refl (fun k => by cases k.1)
  | @more p v m _ hp h1 h2 ih =>
    intro a m1 b q v1 g1 g2
    obtain ⟨pre, e1, _⟩ := hp
    have evm : Ed nx v m := by unfold Ed; rw [e1]; simp
    obtain ⟨q1, q2⟩ := snoc_inj g2
    subst q2
    rcases List.eq_nil_or_concat b with rfl | ⟨b', z, rfl⟩
    · obtain ⟨e3, e4⟩ := snoc_inj (p := p ++ [v]) (q := a) (by simpa using g1)
      subst e4 e3
      exact .refl (fun k => h2 k.1)
    · obtain ⟨e3, e4⟩ := snoc_inj (p := p ++ [v]) (q := a ++ m1 :: b') (by simpa using g1)
      subst e4
      refine (ih a m1 b' p v e3 rfl).snoc evm (fun k => h2 ?_)
      rw [e3]
      exact List.mem_append_left _ k.1
theorem Sw.found {nx : Nat → List Nat} {s : Nat} {LF : Nat → List Nat} {En : Nat → Bool} {p : List Nat} {v : Nat} (h : Sw nx s LF En p v) {r : List Nat} (e : LF v = s :: r) (hs : ∀ x, Ris (nx x)) (hl : ∀ x, On (Ed nx) x → s ≤ x) : Circ (Ed nx) (p ++ [v]) := by
  obtain ⟨pre, e1, _⟩ := h.top
  have evs : Ed nx v s := by unfold Ed; rw [e1, e]; simp
  have key : ∀ a m b, p ++ [v] = a ++ m :: b → Av (Ed nx) (Fo s a) m s := fun a m b q => (trail_on h.tr a m b p v q rfl).snoc evs (fun k => k.2 rfl)
  refine .inr ⟨s, p, v, rfl, h.found_on e, hl, trail_way hs hl h.tr p v rfl (fun m hm => ?_) key, evs⟩
  obtain ⟨a, b, q⟩ := List.append_of_mem hm
  exact (key a m b q).rch
end Go.Proofs.Ytjgepcifknmdhaa

/- A walk through all that can be reached, and the groups: plain words. -/
namespace Go.Proofs.Ytjgepcifknmdhaa

/-- A way by edges. -/
inductive Pth (nx : Nat → List Nat) : List Nat → Prop
  | nil : Pth nx []
  | one {v : Nat} : Pth nx ([] ++ [v])
  | more {p : List Nat} {v m : Nat} : Pth nx (p ++ [v]) → Ed nx v m → Pth nx (p ++ [v] ++ [m])
theorem Pth.inv {nx : Nat → List Nat} {p : List Nat} {v : Nat} (h : Pth nx (p ++ [v])) : p = [] ∨ ∃ q u, p = q ++ [u] ∧ Pth nx (q ++ [u]) ∧ Ed nx u v := by
  generalize e : p ++ [v] = c at h
  cases h with
  | nil => simp at e
  | one => exact .inl (snoc_inj e).1
  | @more q u m h1 h2 =>
    obtain ⟨e1, e2⟩ := snoc_inj e
    exact .inr ⟨q, u, e1, h1, by rw [e2]; exact h2⟩
theorem Pth.cut {nx : Nat → List Nat} {p : List Nat} {v : Nat} (h : Pth nx (p ++ [v])) : Pth nx p := by
  rcases h.inv with rfl | ⟨q, u, rfl, h1, _⟩
  · exact .nil
  · exact h1
theorem Pth.to {nx : Nat → List Nat} {c : List Nat} (h : Pth nx c) : ∀ q v, c = q ++ [v] → ∀ x ∈ c, Rch (Ed nx) x v := by
  induction h with
  | nil => intro q v e; simp at e
  | one =>
    intro q v e x hx
    obtain ⟨_, rfl⟩ := snoc_inj e
    obtain rfl : x = _ := by simpa using hx
    exact Rch.refl _ _
  | more _ e1 ih =>
    intro q v e x hx
    obtain ⟨_, rfl⟩ := snoc_inj e
    rcases List.mem_append.1 hx with h | h
    · exact Av.snoc (ih _ _ rfl x h) e1 id
    · rw [List.mem_singleton.1 h]; exact Rch.refl _ _
/-- Whoever of those up to z is next to one of these is one of them, or leads to z. -/
def KK (nx : Nat → List Nat) (L : List Nat) : Prop := ∀ a z b, L = a ++ z :: b → ∀ x, (x ∈ a ∨ x = z) → ∀ y, Ed nx x y → y ∈ a ∨ y = z ∨ Rch (Ed nx) y z
theorem kk_nil (nx : Nat → List Nat) : KK nx [] := fun a z b e => by simp at e
theorem kk_snoc {nx : Nat → List Nat} {L : List Nat} {v : Nat} (h : KK nx L) (k : ∀ x, (x ∈ L ∨ x = v) → ∀ y, Ed nx x y → y ∈ L ∨ y = v ∨ Rch (Ed nx) y v) : KK nx (L ++ [v]) := by
  intro a z b e
  rcases List.eq_nil_or_concat b with rfl | ⟨b', w, rfl⟩
  · obtain ⟨rfl, rfl⟩ := snoc_inj (p := L) (q := a) (by simpa using e)
    exact k
  · obtain ⟨e1, _⟩ := snoc_inj (p := L) (q := a ++ z :: b') (by simpa using e)
    exact h a z b' e1
/-- A walk that stands nowhere: whoever was entered is among O, with all its next ones. -/
structure Fi (nx : Nat → List Nat) (O : List Nat) (LF : Nat → List Nat) (En : Nat → Bool) : Prop where
  ent : ∀ x, En x = true ↔ x ∈ O
  nd : O.Nodup
  don : ∀ x ∈ O, ∀ y, Ed nx x y → y ∈ O
  new : ∀ x, En x = false → LF x = nx x
  kk : KK nx O
theorem fi_start (nx : Nat → List Nat) : Fi nx [] nx (fun _ => false) :=
  ⟨fun x => by simp, by simp, fun x hx => (by cases hx), fun _ _ => rfl, kk_nil nx⟩
/-- A walk that began at p0 and stands at the end of P; those of out have been left. -/
structure Sa (nx : Nat → List Nat) (p0 : Nat) (O : List Nat) (LF : Nat → List Nat) (En : Nat → Bool) (P out : List Nat) : Prop where
  ent : ∀ x, En x = true ↔ x ∈ O ++ out ∨ x ∈ P
  nd : (O ++ out ++ P).Nodup
  pth : Pth nx P
  frm : ∀ x, x ∈ out ∨ x ∈ P → Rch (Ed nx) p0 x
  don : ∀ x ∈ O ++ out, ∀ y, Ed nx x y → En y = true
  tri : ∀ x ∈ P, ∃ pre, nx x = pre ++ LF x ∧ ∀ t ∈ pre, En t = true
  new : ∀ x, En x = false → LF x = nx x
  kk : KK nx (O ++ out)
  st : En p0 = true
namespace Sa
variable {nx : Nat → List Nat} {p0 : Nat} {O : List Nat} {LF : Nat → List Nat} {En : Nat → Bool} {P out p : List Nat} {v : Nat}
theorem start (h : Fi nx O LF En) (hp : En p0 = false) : Sa nx p0 O LF (upd En p0 true) [p0] [] := by
  have hn : p0 ∉ O := fun k => by rw [(h.ent p0).2 k] at hp; cases hp
  have hm : ∀ x, En x = true → upd En p0 true x = true := fun x hx => by
    by_cases e : x = p0
    · rw [e]; exact upd_same _ _ _
    · rw [upd_other _ _ e]; exact hx
  refine ⟨fun x => ?_, ?_, .one, fun x hx => ?_, fun x hx y e => hm y ((h.ent y).2 (h.don x (by simpa using hx) y e)), fun x hx => ⟨[], ?_, fun t ht => (by cases ht)⟩, fun x hx => ?_, by simpa using h.kk, upd_same _ _ _⟩
  · by_cases e : x = p0
    · rw [e, upd_same]; simp
    · rw [upd_other _ _ e, h.ent]
      simp [e]
  · rw [List.append_nil, List.nodup_append]
    refine ⟨h.nd, by simp, fun a ha b hb e => hn ?_⟩
    rw [← List.mem_singleton.1 hb, ← e]
    exact ha
  · rcases hx with k | k
    · cases k
    · rw [List.mem_singleton.1 k]; exact Rch.refl _ _
  · rw [List.mem_singleton.1 hx, h.new p0 hp]; rfl
  · refine h.new x ?_
    by_cases e : x = p0
    · rw [e, upd_same] at hx; cases hx
    · rwa [upd_other _ _ e] at hx
theorem v_notin (h : Sa nx p0 O LF En (p ++ [v]) out) : v ∉ p := by
  have := h.nd
  rw [List.nodup_append] at this
  have := this.2.1
  rw [List.nodup_append] at this
  exact fun k => this.2.2 v k v (by simp) rfl
theorem again (h : Sa nx p0 O LF En (p ++ [v]) out) {t : Nat} {r : List Nat} (e : LF v = t :: r) (hE : En t = true) : Sa nx p0 O (upd LF v r) En (p ++ [v]) out := by
  refine ⟨h.ent, h.nd, h.pth, h.frm, h.don, fun x hx => ?_, fun x hx => ?_, h.kk, h.st⟩
  · obtain ⟨pre, e1, e2⟩ := h.tri x hx
    by_cases k : x = v
    · subst k
      refine ⟨pre ++ [t], by rw [upd_same, e1, e]; simp, fun y hy => ?_⟩
      rcases List.mem_append.1 hy with q | q
      · exact e2 y q
      · rw [List.mem_singleton.1 q]; exact hE
    · exact ⟨pre, by rw [upd_other _ _ k]; exact e1, e2⟩
  · rw [upd_other]
    · exact h.new x hx
    · rintro rfl
      rw [(h.ent x).2 (.inr (by simp))] at hx
      cases hx
theorem go (h : Sa nx p0 O LF En (p ++ [v]) out) {t : Nat} {r : List Nat} (e : LF v = t :: r) (hE : En t = false) : Sa nx p0 O (upd LF v r) (upd En t true) (p ++ [v] ++ [t]) out := by
  have hn : ¬ (t ∈ O ++ out ∨ t ∈ p ++ [v]) := fun k => by rw [(h.ent t).2 k] at hE; cases hE
  have htv : t ≠ v := fun k => hn (.inr (by rw [k]; simp))
  have hm : ∀ x, En x = true → upd En t true x = true := fun x hx => by
    by_cases e : x = t
    · rw [e]; exact upd_same _ _ _
    · rw [upd_other _ _ e]; exact hx
  obtain ⟨pre, e1, e2⟩ := h.tri v (by simp)
  have evt : Ed nx v t := by unfold Ed; rw [e1, e]; simp
  refine ⟨fun x => ?_, ?_, .more h.pth evt, fun x hx => ?_, fun x hx y k => hm y (h.don x hx y k), fun x hx => ?_, fun x hx => ?_, h.kk, hm _ h.st⟩
  · by_cases k : x = t
    · rw [k, upd_same]; simp
    · rw [upd_other _ _ k, h.ent, List.mem_append (s := p ++ [v]), List.mem_singleton]
      simp [k]
  · rw [← List.append_assoc, List.nodup_append]
    refine ⟨h.nd, by simp, fun a ha b hb q => hn ?_⟩
    rw [List.mem_singleton] at hb
    subst hb q
    rcases List.mem_append.1 ha with q | q
    · exact .inl q
    · exact .inr q
  · rcases hx with k | k
    · exact h.frm x (.inl k)
    · rcases List.mem_append.1 k with k | k
      · exact h.frm x (.inr k)
      · rw [List.mem_singleton.1 k]
        exact Av.snoc (h.frm v (.inr (by simp))) evt id
  · rcases List.mem_append.1 hx with k | k
    · by_cases q : x = v
      · subst q
        refine ⟨pre ++ [t], by rw [upd_same, e1, e]; simp, fun y hy => ?_⟩
        rcases List.mem_append.1 hy with q | q
        · exact hm y (e2 y q)
        · rw [List.mem_singleton.1 q]; exact upd_same _ _ _
      · obtain ⟨pre', e1', e2'⟩ := h.tri x k
        exact ⟨pre', by rw [upd_other _ _ q]; exact e1', fun y hy => hm y (e2' y hy)⟩
    · rw [List.mem_singleton.1 k]
      exact ⟨[], by rw [upd_other _ _ htv, h.new t hE]; rfl, fun y hy => (by cases hy)⟩
  · by_cases k : x = t
    · rw [k, upd_same] at hx; cases hx
    · rw [upd_other _ _ k] at hx
      rw [upd_other]
      · exact h.new x hx
      · rintro rfl
        rw [(h.ent x).2 (.inr (by simp))] at hx
        cases hx
theorem back (h : Sa nx p0 O LF En (p ++ [v]) out) (e : LF v = []) : Sa nx p0 O LF En p (out ++ [v]) := by
  have hmem : ∀ x, x ∈ O ++ (out ++ [v]) ∨ x ∈ p ↔ x ∈ O ++ out ∨ x ∈ p ++ [v] := fun x => by
    simp only [List.mem_append, List.mem_singleton]
    constructor
    · rintro ((k | k | k) | k) <;> simp [k]
    · rintro ((k | k) | k | k) <;> simp [k]
  obtain ⟨pre, e1, e2⟩ := h.tri v (by simp)
  rw [e, List.append_nil] at e1
  have hdv : ∀ y, Ed nx v y → En y = true := fun y k => e2 y (by unfold Ed at k; rwa [e1] at k)
  refine ⟨fun x => (h.ent x).trans (hmem x).symm, ?_, h.pth.cut, fun x hx => ?_, fun x hx y k => ?_, fun x hx => h.tri x (List.mem_append_left _ hx), h.new, ?_, h.st⟩
  · refine (List.Perm.nodup_iff ?_).1 h.nd
    rw [show O ++ (out ++ [v]) ++ p = (O ++ out) ++ ([v] ++ p) by simp]
    exact (List.perm_append_comm).append_left _
  · refine h.frm x ?_
    rcases hx with k | k
    · rcases List.mem_append.1 k with k | k
      · exact .inl k
      · exact .inr (by rw [List.mem_singleton.1 k]; simp)
    · exact .inr (List.mem_append_left _ k)
  · rw [← List.append_assoc] at hx
    rcases List.mem_append.1 hx with q | q
    · exact h.don x q y k
    · rw [List.mem_singleton.1 q] at k
      exact hdv y k
  · rw [← List.append_assoc]
    refine kk_snoc h.kk (fun x hx y k => ?_)
    have hy : En y = true := by
      rcases hx with q | q
      · exact h.don x q y k
      · rw [q] at k; exact hdv y k
    rcases (h.ent y).1 hy with q | q
    · exact .inl q
    · exact .inr (.inr (h.pth.to p v rfl y q))
theorem fin (h : Sa nx p0 O LF En [] out) : Fi nx (O ++ out) LF En ∧ (∀ x ∈ out, Rch (Ed nx) p0 x) ∧ p0 ∈ O ++ out := by
  have e : ∀ x, En x = true ↔ x ∈ O ++ out := fun x => (h.ent x).trans (by simp)
  exact ⟨⟨e, by simpa using h.nd, fun x hx y k => (e y).1 (h.don x hx y k), h.new, h.kk⟩, fun x hx => h.frm x (.inl hx), (e p0).1 h.st⟩
end Sa

/-- Each leads to the other. -/
def Sc (nx : Nat → List Nat) (x y : Nat) : Prop := Rch (Ed nx) x y ∧ Rch (Ed nx) y x
theorem Sc.refl (nx : Nat → List Nat) (x : Nat) : Sc nx x x := ⟨Rch.refl _ _, Rch.refl _ _⟩
theorem Sc.symm {nx : Nat → List Nat} {x y : Nat} (h : Sc nx x y) : Sc nx y x := ⟨h.2, h.1⟩
theorem Sc.trans {nx : Nat → List Nat} {x y z : Nat} (h : Sc nx x y) (k : Sc nx y z) : Sc nx x z := ⟨Av.trans h.1 k.1, Av.trans k.2 h.2⟩
/-- Who is left last of its group leads to those alone that were left ahead of it. -/
theorem kk_last {nx : Nat → List Nat} {a b : List Nat} {z : Nat} (h : KK nx (a ++ z :: b)) (hb : ∀ y ∈ b, ¬ Sc nx z y) (hc : ∀ x ∈ a ++ z :: b, ∀ y, Ed nx x y → y ∈ a ++ z :: b) {w v : Nat} (r : Rch (Ed nx) w v) :
    Rch (Ed nx) z w → (w ∈ a ∨ w = z) → (v ∈ a ∨ v = z) := by
  induction r with
  | refl _ => exact fun _ k => k
  | @step w y v _ e _ ih =>
    intro hz k
    have hzy : Rch (Ed nx) z y := Av.snoc hz e id
    refine ih hzy ?_
    rcases h a z b rfl w k y e with q | q | q
    · exact .inl q
    · exact .inr q
    · have hy : y ∈ a ++ z :: b := hc w (by rcases k with k | k <;> simp [k]) y e
      rcases List.mem_append.1 hy with k1 | k1
      · exact .inl k1
      · rcases List.mem_cons.1 k1 with k1 | k1
        · exact .inr k1
        · exact absurd ⟨hzy, q⟩ (hb y k1)
/-- The last one of whom p holds. -/
theorem last_of {p : Nat → Prop} : ∀ (L : List Nat), (∃ x ∈ L, p x) → ∃ a z b, L = a ++ z :: b ∧ p z ∧ ∀ y ∈ b, ¬ p y
  | [], h => by obtain ⟨x, hx, _⟩ := h; cases hx
  | c :: r, h => by
    by_cases k : ∃ x ∈ r, p x
    · obtain ⟨a, z, b, e, h1, h2⟩ := last_of r k
      exact ⟨c :: a, z, b, by rw [e]; rfl, h1, h2⟩
    · obtain ⟨x, hx, hp⟩ := h
      rcases List.mem_cons.1 hx with rfl | q
      · exact ⟨[], x, r, rfl, hp, fun y hy hpy => k ⟨y, hy, hpy⟩⟩
      · exact absurd ⟨x, q, hp⟩ k
/-- The groups so far: those of one lead to one another; all of O, closed. -/
structure Gs (nx : Nat → List Nat) (O : List Nat) (G : List (List Nat)) : Prop where
  cl : ∀ x ∈ O, ∀ y, Sc nx x y → y ∈ O
  all : ∀ x ∈ O, ∃ g ∈ G, x ∈ g
  grp : ∀ g ∈ G, g.Nodup ∧ ∃ p, p ∈ g ∧ ∀ x, x ∈ g ↔ Sc nx p x
theorem gs_nil (nx : Nat → List Nat) : Gs nx [] [] := ⟨fun x hx => (by cases hx), fun x hx => (by cases hx), fun g hg => (by cases hg)⟩
/-- One group more. -/
theorem gs_step {nx tx : Nat → List Nat} (ht : ∀ x y, Ed tx x y ↔ Ed nx y x) {L R S O out : List Nat} {p : Nat} {G : List (List Nat)} {LF : Nat → List Nat} {En : Nat → Bool}
    (hL : KK nx L) (hnd : L.Nodup) (hc : ∀ x ∈ L, ∀ y, Ed nx x y → y ∈ L) (hall : ∀ x y, Ed nx x y → x ∈ L) (e : L = R ++ p :: S) (hS : ∀ x ∈ S, x ∈ O) (h : Gs nx O G)
    (hf : Fi tx (O ++ out) LF En) (hr : ∀ x ∈ out, Rch (Ed tx) p x) (hp : p ∈ out) : Gs nx (O ++ out) (G ++ [out]) := by
  have rev : ∀ {a b : Nat}, Rch (Ed tx) a b → Rch (Ed nx) b a := fun r => by
    induction r with
    | refl _ => exact Rch.refl _ _
    | step _ e _ ih => exact Av.snoc ih ((ht _ _).1 e) id
  have hpO : p ∉ O := by
    have := hf.nd
    rw [List.nodup_append] at this
    exact fun k => this.2.2 p k p hp rfl
  have hnO : ∀ x ∈ out, x ∉ O := by
    have := hf.nd
    rw [List.nodup_append] at this
    exact fun x hx k => this.2.2 x k x hx rfl
  have hpL : p ∈ L := by rw [e]; simp
  have key : ∀ x, x ∈ out ↔ Sc nx p x := fun x => by
    constructor
    · intro hx
      have rxp : Rch (Ed nx) x p := rev (hr x hx)
      have hxL : x ∈ L := by
        cases rxp with
        | refl _ => exact hpL
        | step _ e1 _ => exact hall _ _ e1
      obtain ⟨a, z, b, e1, e2, e3⟩ := last_of (p := Sc nx x) L ⟨x, hxL, Sc.refl nx x⟩
      have hb : ∀ y ∈ b, ¬ Sc nx z y := fun y hy k => e3 y hy (e2.trans k)
      rw [e1] at hL hc
      have rzp : Rch (Ed nx) z p := Av.trans e2.2 rxp
      have hz : z ∉ O := fun k => hnO x hx (h.cl z k x e2.symm)
      rcases kk_last hL hb hc rzp (Rch.refl _ _) (.inr rfl) with k | k
      · exfalso
        refine hz (hS z ?_)
        obtain ⟨a1, a2, rfl⟩ := List.append_of_mem k
        have e4 : R ++ p :: S = a1 ++ p :: (a2 ++ z :: b) := by rw [← e, e1]; simp
        have hnd2 : (R ++ p :: S).Nodup := by rw [← e]; exact hnd
        have hpR : p ∉ R := fun q => by
          rw [List.nodup_append] at hnd2
          exact hnd2.2.2 p q p (by simp) rfl
        have hpa : p ∉ a1 := fun q => by
          rw [e4, List.nodup_append] at hnd2
          exact hnd2.2.2 p q p (by simp) rfl
        have e5 := (List.append_eq_append_iff).1 e4
        rcases e5 with ⟨c, c1, c2⟩ | ⟨c, c1, c2⟩
        · cases c with
          | nil => simp at c2; rw [c2]; simp
          | cons y r =>
            simp at c2
            exact absurd (by rw [c1, ← c2.1]; simp) hpa
        · cases c with
          | nil => simp at c2; rw [← c2]; simp
          | cons y r =>
            simp at c2
            exact absurd (by rw [c1, ← c2.1]; simp) hpR
      · rw [k]; exact e2.symm
    · intro hx
      have aux : ∀ {w v : Nat}, Rch (Ed nx) w v → v = p → Rch (Ed nx) p w → w ∈ O ++ out := fun r => by
        induction r with
        | refl _ => intro e _; rw [e]; exact List.mem_append_right _ hp
        | @step w y v _ e1 _ ih =>
          intro e2 e3
          exact hf.don y (ih e2 (Av.snoc e3 e1 id)) w ((ht _ _).2 e1)
      rcases List.mem_append.1 (aux hx.2 rfl hx.1) with k | k
      · exact absurd (h.cl x k p hx.symm) hpO
      · exact k
  refine ⟨fun x hx y hy => ?_, fun x hx => ?_, fun g hg => ?_⟩
  · rcases List.mem_append.1 hx with k | k
    · exact List.mem_append_left _ (h.cl x k y hy)
    · exact List.mem_append_right _ ((key y).2 (((key x).1 k).trans hy))
  · rcases List.mem_append.1 hx with k | k
    · obtain ⟨g, g1, g2⟩ := h.all x k
      exact ⟨g, List.mem_append_left _ g1, g2⟩
    · exact ⟨out, by simp, k⟩
  · rcases List.mem_append.1 hg with k | k
    · exact h.grp g k
    · rw [List.mem_singleton.1 k]
      have := hf.nd
      rw [List.nodup_append] at this
      exact ⟨this.2.1, p, hp, key⟩
/-- Whoever is of a group of more than one, or next to itself, is on a circle; nobody else is. -/
theorem group_on {nx : Nat → List Nat} {g : List Nat} (h : g.Nodup ∧ ∃ p, p ∈ g ∧ ∀ x, x ∈ g ↔ Sc nx p x) (x : Nat) (hx : x ∈ g) : On (Ed nx) x ↔ (1 < g.length ∨ Ed nx (g.getD 0 0) (g.getD 0 0)) := by
  obtain ⟨hnd, p, _, hg⟩ := h
  have hxy : ∀ y ∈ g, Sc nx x y := fun y hy => ((hg x).1 hx).symm.trans ((hg y).1 hy)
  constructor
  · rintro ⟨t, e, r⟩
    have ht : t ∈ g := (hg t).2 (((hg x).1 hx).trans ⟨Rch.one e, r⟩)
    match g, hx, ht, hnd with
    | [a], hx, ht, _ =>
      rw [List.mem_singleton] at hx ht
      subst hx ht
      exact .inr e
    | a :: b :: r, _, _, _ => exact .inl (by simp)
  · intro k
    have two : (∃ y ∈ g, y ≠ x) → On (Ed nx) x := by
      rintro ⟨y, hy, hne⟩
      obtain ⟨r1, r2⟩ := hxy y hy
      cases r1 with
      | refl _ => exact absurd rfl hne
      | step _ e r1 => exact ⟨_, e, Av.trans r1 r2⟩
    match g, hx, hnd, k, two with
    | [a], hx, _, k, _ =>
      rw [List.mem_singleton] at hx
      subst hx
      rcases k with k | k
      · simp at k
      · exact ⟨x, k, Rch.refl _ _⟩
    | a :: b :: r, _, hnd, _, two =>
      refine two ?_
      by_cases e : a = x
      · refine ⟨b, by simp, ?_⟩
        rintro rfl
        simp [e] at hnd
      · exact ⟨a, by simp, e⟩
end Go.Proofs.Ytjgepcifknmdhaa

/- Rws of rows of places in memory; weave. -/
namespace Go.Proofs.Ytjgepcifknmdhaa
open Go.RowKit

/-- Places as numbers. -/
def ci (l : List Nat) : List Int := l.map (fun x : Nat => (x : Int))
theorem ci_len (l : List Nat) : (ci l).length = l.length := by unfold ci; exact List.length_map _
theorem ci_app (l m : List Nat) : ci (l ++ m) = ci l ++ ci m := by unfold ci; exact List.map_append
theorem ci_at (l : List Nat) (i : Nat) : (ci l).getD i 0 = ((l.getD i 0 : Nat) : Int) := by
  unfold ci
  simp only [List.getD_eq_getElem?_getD, List.getElem?_map]
  cases l[i]? <;> rfl
/-- The slice v is read: the numbers l, with the room that it has. -/
def Rc (w : World) (v : Value) (l : List Int) : Prop := ∃ a cap, v = .slice a l.length cap ∧ SegK .i64 w a l.length l ∧ l.length ≤ cap ∧ cap ≤ maxLen ∧ (a = none → cap = 0)
theorem Rc.next {w w' : World} {v : Value} {l : List Int} (h : Rc w v l) (k : Below w.heap.size w w') : Rc w' v l := by
  obtain ⟨a, cap, e, s, r⟩ := h
  exact ⟨a, cap, e, s.later k, r⟩
theorem Rc.rd {w : World} {v : Value} {l : List Int} (h : Rc w v l) : Rd w v l := by
  obtain ⟨a, cap, e, s, _⟩ := h
  exact ⟨a, cap, e, s⟩
theorem Is.rc {B : Nat} {w : World} {v : Value} {l : List Int} (h : Is B v l w) : Rc w v l := by
  obtain ⟨a, cap, e, s⟩ := h.rd
  refine ⟨a, cap, e, s, ?_⟩
  rcases h.2 with ⟨e2, h0⟩ | ⟨g, c2, cur, e2, _, _, h3, h4, _⟩
  · rw [e] at e2
    injection e2 with e3 e4 e5
    subst e5
    exact ⟨by omega, Nat.zero_le _, fun _ => rfl⟩
  · rw [e] at e2
    injection e2 with e3 e4 e5
    subst e3 e5
    exact ⟨h3, h4, fun e => by cases e⟩
/-- The slice v is read: n rows of places. -/
def Rws (w : World) (v : Value) (n : Nat) (nx : Nat → List Nat) : Prop := ∃ G cap cur, v = .slice (some ⟨G, 0, none⟩) n cap ∧ w.heap[G]? = some (.cells cur 23 (0, 0)) ∧ n ≤ cap ∧ cap ≤ 10000 ∧ cur.size = cap ∧ ∀ i, i < n → ∃ x, cur[i]? = some x ∧ Rc w x (ci (nx i))
theorem Rws.next {w w' : World} {v : Value} {n : Nat} {nx : Nat → List Nat} (h : Rws w v n nx) (k : Below w.heap.size w w') : Rws w' v n nx := by
  obtain ⟨G, cap, cur, e, h1, h2, h3, h4, h5⟩ := h
  exact ⟨G, cap, cur, e, (k.block _ (heap_lt h1)).trans h1, h2, h3, h4, fun i hi => by
    obtain ⟨x, e1, e2⟩ := h5 i hi
    exact ⟨x, e1, e2.next k⟩⟩
theorem Rws.form {w : World} {v : Value} {n : Nat} {nx : Nat → List Nat} (h : Rws w v n nx) : ∃ G cap, v = .slice (some ⟨G, 0, none⟩) n cap := by
  obtain ⟨G, cap, cur, e, _⟩ := h
  exact ⟨G, cap, e⟩
theorem Rws.at {w : World} {G n cap : Nat} {nx : Nat → List Nat} (h : Rws w (.slice (some ⟨G, 0, none⟩) n cap) n nx) {i : Nat} (hi : i < n) : ∃ x, w.cell? ⟨G, i, none⟩ = some x ∧ Rc w x (ci (nx i)) := by
  obtain ⟨G', cap', cur, e, h1, h2, h3, h4, h5⟩ := h
  injection e with e1 e2 e3
  injection e1 with e1
  injection e1 with e1
  subst e1
  obtain ⟨x, e1, e2⟩ := h5 i hi
  exact ⟨x, by simp [World.cell?, h1, e1], e2⟩
/-- Rws that are being made: each of its own, apart from the others. -/
structure Wv (B G n : Nat) (R : Nat → List Nat) (xs : Nat → Value) (w : World) : Prop where
  blk : ∃ cur, w.heap[G]? = some (.cells cur 23 (0, 0)) ∧ cur.size = n ∧ ∀ i, i < n → cur[i]? = some (xs i)
  row : ∀ i, i < n → Is B (xs i) (ci (R i)) w
  dis : ∀ i j, i < n → j < n → i ≠ j → ∀ k, (xs i).ownBlock = some k → (xs j).ownBlock ≠ some k
  bB : B ≤ G
namespace Wv
variable {B G n : Nat} {R : Nat → List Nat} {xs : Nat → Value} {w w' : World}
theorem next (h : Wv B G n R xs w) (k : Below w.heap.size w w') : Wv B G n R xs w' := by
  obtain ⟨cur, h1, h2⟩ := h.blk
  exact ⟨⟨cur, (k.block _ (heap_lt h1)).trans h1, h2⟩, fun i hi => (h.row i hi).next k, h.dis, h.bB⟩
theorem at_ (h : Wv B G n R xs w) {i : Nat} (hi : i < n) : w.cell? ⟨G, i, none⟩ = some (xs i) ∧ w.frozen? ⟨G, i, none⟩ = false := by
  obtain ⟨cur, h1, _, h3⟩ := h.blk
  exact ⟨by simp [World.cell?, h1, h3 i hi], by simp [World.frozen?, h1]⟩
theorem rows (h : Wv B G n R xs w) (hn : n ≤ 10000) : Rws w (.slice (some ⟨G, 0, none⟩) n n) n R := by
  obtain ⟨cur, h1, h2, h3⟩ := h.blk
  exact ⟨G, n, cur, rfl, h1, Nat.le_refl _, hn, h2, fun i hi => ⟨xs i, h3 i hi, (h.row i hi).rc⟩⟩
/-- One more at the end of row i. -/
theorem push (h : Wv B G n R xs w) {i : Nat} (hi : i < n) {v' : Value} {g H : Nat} {l' : List Nat} (h1 : Is B v' (ci l') w') (h2 : w.grownBy w' (xs i).ownBlock) (hv : v'.ownBlock = some g) (hg : (xs i).ownBlock = some g ∨ g = H) (hH : w.heap.size ≤ H) :
    Wv B G n (upd R i l') (upd xs i v') (w'.setCell ⟨G, i, none⟩ v') ∧ w'.cell? ⟨G, i, none⟩ = some (xs i) ∧ w'.frozen? ⟨G, i, none⟩ = false := by
  obtain ⟨cur, b1, b2, b3⟩ := h.blk
  have tyG : ∀ (u : Value) (l : List Int) (W : World) (c : Array Value), Is B u l W → W.heap[G]? = some (.cells c 23 (0, 0)) → u.ownBlock ≠ some G := fun u l W c p q e => by
    obtain ⟨c2, hc⟩ := p.ty _ e
    rw [q] at hc; cases hc
  have g1 : w'.heap[G]? = some (.cells cur 23 (0, 0)) := (h2.block _ (heap_lt b1) (fun e => tyG _ _ _ _ (h.row i hi) b1 e.symm)).trans b1
  have hset : (w'.setCell ⟨G, i, none⟩ v').heap[G]? = some (.cells (cur.set! i v') 23 (0, 0)) := by
    show (w'.heap.modify G _)[G]? = _
    rw [Array.getElem?_modify, if_pos rfl, g1]; rfl
  have hic : i < cur.size := by omega
  refine ⟨⟨⟨_, hset, by simp [b2], fun j hj => ?_⟩, fun j hj => ?_, fun j k hj hk hne q e1 e2 => ?_, h.bB⟩, by simp [World.cell?, g1, b3 i hi], by simp [World.frozen?, g1]⟩
  · by_cases e : j = i
    · subst e
      rw [upd_same]
      simp [hic]
    · rw [upd_other _ _ e, ← b3 j hj]
      simp [Ne.symm e]
  · by_cases e : j = i
    · subst e
      rw [upd_same, upd_same]
      exact h1.keep fun k hk => heap_set_other _ _ (fun e => tyG _ _ _ _ h1 g1 (by rw [← e]; exact hk))
    · rw [upd_other _ _ e, upd_other _ _ e]
      have h3 := h.row j hj
      refine h3.keep fun k hk => ?_
      refine (heap_set_other _ _ (fun e => tyG _ _ _ _ h3 b1 (by rw [← e]; exact hk))).trans (h2.block k (h3.lt k hk).2 (fun e2 => h.dis i j hi hj (Ne.symm e) k e2.symm hk))
  · by_cases ej : j = i
    · by_cases ek : k = i
      · omega
      · subst ej
        rw [upd_same] at e1
        rw [upd_other _ _ ek] at e2
        rw [hv] at e1
        injection e1 with e1
        subst e1
        rcases hg with hg | hg
        · exact h.dis j k hj hk hne g hg e2
        · have := ((h.row k hk).lt g e2).2
          omega
    · by_cases ek : k = i
      · subst ek
        rw [upd_same] at e2
        rw [upd_other _ _ ej] at e1
        rw [hv] at e2
        injection e2 with e2
        subst e2
        rcases hg with hg | hg
        · exact h.dis k j hk hj (Ne.symm hne) g hg e1
        · have := ((h.row j hj).lt g e1).2
          omega
      · rw [upd_other _ _ ej] at e1
        rw [upd_other _ _ ek] at e2
        exact h.dis j k hj hk hne q e1 e2
end Wv
theorem wv_made (B n : Nat) (w : World) (hB : B ≤ w.heap.size) : Wv B w.heap.size n (fun _ => []) (fun _ => .slice none 0 0) (w.alloc (.cells (madeCells #[.slice none 0 0] n) 23)) := by
  refine ⟨⟨_, heap_alloc_new w _, size_madeCells _ _, fun i hi => ?_⟩, fun i _ => is_nil _ _, fun i j _ _ _ k e => (by cases e), hB⟩
  unfold madeCells
  simp [hi, Nat.mod_one]
theorem zero23 : (Try.prog.info? 23).map (fun i => (i.zero, i.size, i.bytes)) = some (some (.slice none 0 0), 1, 24) := by kernel_rfl
theorem make46 (n : Nat) (hn : n ≤ 10000) (w : World) : (Instr.makeSlice 51 (.int .i64 (n : Int)) (.int .i64 (n : Int))).run Try.prog w = .ok (.slice (some ⟨w.heap.size, 0, none⟩) n n) (w.alloc (.cells (madeCells #[.slice none 0 0] n) 23)) := by
  obtain ⟨i, hi, hz, hs, hb⟩ := info_parts zero23
  have := run_makeSlice (P := Try.prog) w 51 23 i _ Try.underlying51 hi hz .i64 .i64 (n : Int) (n : Int) (by omega) (Int.le_refl _) (by rw [hs]; omega) (by rw [hb]; omega) (by omega)
  simp only [Int.toNat_natCast, hs, Nat.mul_one] at this
  exact this
/-- One number more, behind the others: and where they lie then. -/
theorem wpList_pushL (w : World) {ops : Array Oper} {rest : List Oper} {o : Oper} {a : Act} {Q : Exit → Act → World → Prop} (hgd : o.guard = none) (s x : Operand)
    (ho : o.op = .call { callee := .builtin .append, args := #[s, x], argTypes := #[23, 23] }) (base : Nat) (v : Value) (n : Nat) (l : List Int) (z : Int)
    (N : Nat) (hs : a.eval s = v) (hx : a.eval x = .slice (some ⟨N, 0, none⟩) 1 1) (hN : w.heap.size = N) (hn : l.length = n) (hown : Is base v l w) (hb : base ≤ w.heap.size) (hm : n < 10000000)
    (h : ∀ g cap w', Is base (.slice (some ⟨g, 0, none⟩) (n + 1) cap) (l ++ [z]) w' → w.grownBy w' v.ownBlock → (v.ownBlock = some g ∨ g = N + 1) → wpList Try.prog ops Q rest (a.put o.dst (.slice (some ⟨g, 0, none⟩) (n + 1) cap)) w') :
    wpList Try.prog ops Q (o :: rest) a (w.alloc (.cells #[.int .i64 z] 3)) := by
  subst hN
  obtain ⟨i3, hi3, hz0, hz1, hz2⟩ := info_parts inf3
  have B5 := below_new w (.cells #[.int .i64 z] 3)
  have G5 := hown.next B5
  have own5 : (w.alloc (.cells #[.int .i64 z] 3)).ownsRow base 3 1 v n (vals l) := by
    have := G5
    unfold Is at this
    rw [hn] at this
    exact this
  refine wpList_append_lies _ hgd s x 23 ho base 3 i3 _ 1 8 Try.underlying23 hi3 hz0 hz1 hz2 rfl (by decide) _ n _ hs own5 ⟨w.heap.size, 0, none⟩ 1 1 [.int .i64 z] hx rfl (World.news_of_block (heap_alloc_new w _)) (vals_one [z]) (by decide) (by unfold maxLen; omega) (by omega) (Nat.le_trans hb B5.size) (w.heap.size + 1) (by simp) ?_
  intro g cap w' a1 a2 a3 _
  refine h g cap w' ?_ (grown_trans (grown_of_below B5 _) a2) a3
  unfold Is vals
  rw [List.length_append, hn, List.map_append]
  exact a1
/-- By place: the places of those to whom edges go, in the edges' order. -/
def rowsD (N : List Int) (L : List En) (p : Nat) : List Nat := if p < N.length then (L.filter (fun e => e.1 == N.getD p 0)).map (fun e => N.idxOf e.2) else []
theorem idx_at' {N : List Int} {k : Int} (h : k ∈ N) : N.idxOf k < N.length ∧ N.getD (N.idxOf k) 0 = k := by
  have hl : N.idxOf k < N.length := List.idxOf_lt_length_of_mem h
  refine ⟨hl, ?_⟩
  rw [List.getD_eq_getElem?_getD, List.getElem?_eq_getElem hl]
  exact List.getElem_idxOf hl
theorem idx_of {N : List Int} (hu : Up N) {i : Nat} (hi : i < N.length) : N.idxOf (N.getD i 0) = i := by
  obtain ⟨hl, he⟩ := idx_at' (at_mem hi)
  rcases Nat.lt_trichotomy (N.idxOf (N.getD i 0)) i with h | h | h
  · have := up_lt hu h hi; omega
  · exact h
  · have := up_lt hu h hl; omega
theorem rows_step {N : List Int} (hu : Up N) {L : List En} {t : Nat} (ht : t < L.length) {a b : Nat} (ha : a < N.length) (ea : N.getD a 0 = (L.getD t (0, 0)).1) (hb : b < N.length) (eb : N.getD b 0 = (L.getD t (0, 0)).2) :
    rowsD N (L.take (t + 1)) = upd (rowsD N (L.take t)) a (rowsD N (L.take t) a ++ [b]) := by
  funext p
  have e : L.getD t (0, 0) = L[t] := by simp [List.getD, ht]
  rw [e] at ea eb
  unfold rowsD
  by_cases hp : p < N.length
  · by_cases hpa : p = a
    · subst hpa
      rw [upd_same, if_pos hp, if_pos hp, List.take_succ_eq_append_getElem ht, List.filter_append, List.map_append]
      have h1 : (L[t].1 == N.getD p 0) = true := by rw [ea]; simp
      rw [List.filter_cons, h1, if_pos rfl]
      show _ ++ [N.idxOf L[t].2] = _
      rw [← eb, idx_of hu hb]
    · rw [upd_other _ _ hpa, if_pos hp, if_pos hp, List.take_succ_eq_append_getElem ht, List.filter_append, List.map_append]
      have h1 : (L[t].1 == N.getD p 0) = false := by
        rw [← ea]
        simp only [beq_eq_false_iff_ne]
        intro k
        rcases Nat.lt_trichotomy a p with q | q | q
        · have := up_lt hu q hp; omega
        · omega
        · have := up_lt hu q ha; omega
      rw [List.filter_cons, h1, if_neg (by decide)]
      simp
  · rw [upd_other _ _ (by omega), if_neg hp, if_neg hp]
theorem rows_mem {N : List Int} (hu : Up N) {L : List En} (hN : ∀ e ∈ L, e.1 ∈ N ∧ e.2 ∈ N) {p q : Nat} : q ∈ rowsD N L p ↔ p < N.length ∧ q < N.length ∧ (N.getD p 0, N.getD q 0) ∈ L := by
  unfold rowsD
  by_cases hp : p < N.length
  · rw [if_pos hp, List.mem_map]
    constructor
    · rintro ⟨⟨a, b⟩, h, rfl⟩
      rw [List.mem_filter] at h
      have ea : a = N.getD p 0 := by simpa using h.2
      have hb := (hN _ h.1).2
      obtain ⟨hl, he⟩ := idx_at' hb
      refine ⟨hp, hl, ?_⟩
      show (N.getD p 0, N.getD (N.idxOf b) 0) ∈ L
      rw [he, ← ea]
      exact h.1
    · rintro ⟨_, hq, h⟩
      exact ⟨_, List.mem_filter.2 ⟨h, by simp⟩, idx_of hu hq⟩
  · rw [if_neg hp]
    simp [hp]
theorem rows_ris {N : List Int} (hu : Up N) {L : List En} (hN : ∀ e ∈ L, e.1 ∈ N ∧ e.2 ∈ N) (hb : ByTo L) (p : Nat) : Ris (rowsD N L p) := by
  unfold rowsD Ris
  split
  · rw [List.pairwise_map]
    refine (List.Pairwise.sublist List.filter_sublist (hb.imp_of_mem ?_))
    intro a b ha hb h
    obtain ⟨la, ea⟩ := idx_at' (hN a ha).2
    obtain ⟨lb, eb⟩ := idx_at' (hN b hb).2
    rcases Nat.lt_or_ge (N.idxOf b.2) (N.idxOf a.2) with q | q
    · have := up_lt hu q la; omega
    · exact q
  · exact List.Pairwise.nil
theorem rows_len (N : List Int) (L : List En) (p : Nat) : (rowsD N L p).length ≤ L.length := by
  unfold rowsD
  split
  · rw [List.length_map]; exact List.length_filter_le _ _
  · exact Nat.zero_le _
end Go.Proofs.Ytjgepcifknmdhaa

/- weave. -/
namespace Go.Proofs.Ytjgepcifknmdhaa
open Go.RowKit

/-- The web of the edges l: names, and by place the places of the next ones. -/
structure Wb (l : List En) (N : List Int) (nx : Nat → List Nat) (v1 v2 : Value) (w : World) : Prop where
  nam : Rd w v1 N
  nz : Nz v1
  rws : Rws w v2 N.length nx
  up : Up N
  iso : Iso N.length (fun i => N.getD i 0) (Ed nx) (fun a b => (a, b) ∈ l)
  ris : ∀ p, Ris (nx p)
  few : ∀ p, (nx p).length ≤ 300
  all : ∀ x, x ∈ N ↔ x ∈ nodL l
theorem Wb.next {l : List En} {N : List Int} {nx : Nat → List Nat} {v1 v2 : Value} {w w' : World} (h : Wb l N nx v1 v2 w) (k : Below w.heap.size w w') : Wb l N nx v1 v2 w' :=
  ⟨h.nam.next k, h.nz, h.rws.next k, h.up, h.iso, h.ris, h.few, h.all⟩
theorem Is.off {B : Nat} {v : Value} {l : List Int} {w : World} (h : Is B v l w) {P : Nat} {cur : Array Value} {t : TypeId} (hP : w.heap[P]? = some (.cells cur t (0, 0))) (ht : t ≠ 3) (j : Nat) (u : Value) : Is B v l (w.setCell ⟨P, j, none⟩ u) :=
  h.keep fun k hk => heap_set_other _ _ (fun e => by
    subst e
    obtain ⟨c, hc⟩ := h.ty _ hk
    rw [hP] at hc
    cases hc
    exact ht rfl)
theorem Wv.off {B G n : Nat} {R : Nat → List Nat} {xs : Nat → Value} {w : World} (h : Wv B G n R xs w) {P : Nat} {cur : Array Value} {t : TypeId} (hP : w.heap[P]? = some (.cells cur t (0, 0))) (h3 : t ≠ 3) (h23 : t ≠ 23) (j : Nat) (u : Value) : Wv B G n R xs (w.setCell ⟨P, j, none⟩ u) := by
  obtain ⟨c, h1, h2⟩ := h.blk
  refine ⟨⟨c, (heap_set_other _ _ (fun e => ?_)).trans h1, h2⟩, fun i hi => (h.row i hi).off hP h3 j u, h.dis, h.bB⟩
  subst e
  rw [hP] at h1
  cases h1
  exact h23 rfl
theorem heap_set_one {W : World} {P : Nat} {a b : Value} {t : TypeId} (x : Value) (h : W.heap[P]? = some (.cells #[a, b] t (0, 0))) : (W.setCell ⟨P, 0, none⟩ x).heap[P]? = some (.cells #[x, b] t (0, 0)) := by
  show (W.heap.modify P _)[P]? = _
  rw [Array.getElem?_modify, if_pos rfl, h]
  rfl
theorem heap_set_two {W : World} {P : Nat} {a b : Value} {t : TypeId} (x y : Value) (h : W.heap[P]? = some (.cells #[a, b] t (0, 0))) : ((W.setCell ⟨P, 0, none⟩ x).setCell ⟨P, 1, none⟩ y).heap[P]? = some (.cells #[x, y] t (0, 0)) := by
  have h1 := heap_set_one x h
  generalize W.setCell ⟨P, 0, none⟩ x = V at h1 ⊢
  show (V.heap.modify P _)[P]? = _
  rw [Array.getElem?_modify, if_pos rfl, h1]
  rfl
theorem canon_up (l : List Int) : Up (canon l) := (canon_facts l).2
theorem canon_le (l : List Int) : (canon l).length ≤ l.length := by
  have h1 := Lib.compact_length_le (sortI l)
  have h2 := sortI_len l
  unfold canon
  omega
theorem weave_iso {l L : List En} {N : List Int} (hu : Up N) (hp : L.Perm l) (hN : ∀ x, x ∈ N ↔ x ∈ nodL l) : (∀ e ∈ L, e.1 ∈ N ∧ e.2 ∈ N) ∧ Iso N.length (fun i => N.getD i 0) (Ed (rowsD N L)) (fun a b => (a, b) ∈ l) := by
  have hL : ∀ e ∈ L, e.1 ∈ N ∧ e.2 ∈ N := fun e he => by
    have h1 : e ∈ l := hp.mem_iff.1 he
    exact ⟨(hN _).2 (nod_mem.2 ⟨e, h1, .inl rfl⟩), (hN _).2 (nod_mem.2 ⟨e, h1, .inr rfl⟩)⟩
  refine ⟨hL, fun i j hij hj => up_lt hu hij hj, fun i j e => ?_, fun i j e => ?_, fun x y e => ?_⟩
  · have := (rows_mem hu hL).1 e
    exact ⟨this.1, this.2.1⟩
  · exact hp.mem_iff.1 ((rows_mem hu hL).1 e).2.2
  · have h1 := hp.mem_iff.2 e
    obtain ⟨a1, a2⟩ := hL _ h1
    obtain ⟨i, hi, e1⟩ := mem_at a1
    obtain ⟨j, hj, e2⟩ := mem_at a2
    dsimp only at e1 e2
    refine ⟨i, j, e1.symm, e2.symm, (rows_mem hu hL).2 ⟨hi, hj, ?_⟩⟩
    rw [e1, e2]
    exact h1
set_option maxRecDepth 100000 in
set_option maxHeartbeats 4000000 in
theorem weave_any (w : World) {v : Value} {l : List En} (h : Re w v l) (hl : l.length ≤ 300) :
    Calls Try.prog 36 #[v] w fun e w' => ∃ v1 v2 nx, e = .returned (.agg #[v1, v2]) ∧ Wb l (canon (nodL l)) nx v1 v2 w' ∧ Below w.heap.size w w' := by
  obtain ⟨N, hN⟩ : ∃ N, N = canon (nodL l) := ⟨_, rfl⟩
  have hu : Up N := by rw [hN]; exact canon_up _
  have hNm : ∀ x, x ∈ N ↔ x ∈ nodL l := by rw [hN]; exact (canon_facts _).1
  have hNl : N.length ≤ 600 := by
    have := canon_le (nodL l)
    rw [nod_len] at this
    rw [hN]; omega
  obtain ⟨W1, hW1⟩ : ∃ W1, W1 = w.alloc (.cells #[.slice none 0 0, .slice none 0 0] 53) := ⟨_, rfl⟩
  have b1 : Below w.heap.size w W1 := by rw [hW1]; exact below_new w _
  have o1 : W1.heap[w.heap.size]? = some (.cells #[.slice none 0 0, .slice none 0 0] 53 (0, 0)) := by rw [hW1]; exact heap_alloc_new w _
  have C1 := hide (nodes_any W1 (h.next b1) (by omega))
  rw [← hN] at C1 ⊢
  have h1 := h.next b1
  have R1 := hide h1
  obtain ⟨n, hn⟩ : ∃ n, n = N.length := ⟨_, rfl⟩
  obtain ⟨a, cap, rfl⟩ := h.form
  have hl8 := hide hl
  obtain ⟨ll, hll⟩ : ∃ ll, ll = l.length := ⟨_, rfl⟩
  have hn9 : n ≤ 10000 := by omega
  replace hNm := hide hNm
  replace hN := hide hN
  replace hu := hide hu
  replace hNl := hide hNl
  replace hn := hide hn
  replace o1 := hide o1
  replace b1 := hide b1
  rw [← hll] at C1 R1 ⊢
  replace hll := hide hll
  clear h h1 hl
  go_enter Try.func36, Try.ntmps36
  go_wp2_with fail
  rw [← hW1]
  replace hW1 := hide hW1
  refine (unhide C1).mono ?_
  rintro e w2 ⟨v2, rfl, I2, b2⟩
  have o2 := hide ((b2.block _ (heap_lt (unhide o1))).trans (unhide o1))
  have R2 := hide ((unhide R1).next b2)
  have B2 := hide (below_then (unhide b1) b2)
  obtain ⟨a2, c2, hv2⟩ := I2.form
  have I2h := hide (I2.down (unhide b1).size)
  rw [← unhide hn] at hv2
  subst hv2
  clear I2 b2
  have hmk := make46 n hn9 w2
  obtain ⟨G, hG⟩ : ∃ G, G = w2.heap.size := ⟨_, rfl⟩
  obtain ⟨W3, hW3⟩ : ∃ W3, W3 = w2.alloc (.cells (madeCells #[.slice none 0 0] n) 23) := ⟨_, rfl⟩
  have V3 : Wv w2.heap.size G n (fun _ => []) (fun _ => .slice none 0 0) W3 := by rw [hW3, hG]; exact wv_made _ n w2 (Nat.le_refl _)
  have b3 : Below w2.heap.size w2 W3 := by rw [hW3]; exact below_new w2 _
  rw [← hW3, ← hG] at hmk
  have R3 := (unhide R2).next b3
  have C4 := hide (values_any W3 R3)
  have b4 := below_new W3 (.cells #[.slice a ll cap] 22)
  have C5 := hide (sorted_any (W3.alloc (.cells #[.slice a ll cap] 22)) W3.heap.size (R3.next b4) (by rw [World.cell?_alloc_new]; rfl) (by have := unhide hl8; omega))
  have V4 := hide (V3.next b4)
  have b5 := hide (below_then b3 b4)
  replace hG := hide hG
  replace hW3 := hide hW3
  replace b3 := hide b3
  clear b4 R3 V3
  go_wp2_with fail
  clear hmk
  refine (unhide C4).mono ?_
  rintro e w4 ⟨rfl, rfl⟩
  go_wp2_with fail
  refine (unhide C5).mono ?_
  rintro e w5 ⟨v5, L, rfl, hp, hby, p5, b6⟩
  have V5 := hide ((unhide V4).next b6)
  have b7 := hide (below_then (unhide b5) b6)
  have p5h := hide p5
  have hLl : L.length ≤ 300 := by have := hp.length_eq; have := unhide hl8; omega
  obtain ⟨a5, c5, hv5⟩ := p5.form
  subst hv5
  obtain ⟨lL, hlL⟩ : ∃ lL, lL = L.length := ⟨_, rfl⟩
  rw [← hlL] at p5h ⊢
  obtain ⟨M, hM⟩ : ∃ M, M = (W3.alloc (.cells #[.slice a ll cap] 22)).heap.size := ⟨_, rfl⟩
  rw [← hM] at p5h
  have hlL9 : lL ≤ 300 := by omega
  replace hM := hide hM
  replace hlL := hide hlL
  replace hp := hide hp
  replace hby := hide hby
  replace hLl := hide hLl
  clear b6 p5 C4 C5 V4 b5
  have hLN : Hid ((∀ e ∈ L, e.1 ∈ N ∧ e.2 ∈ N) ∧ Iso N.length (fun i => N.getD i 0) (Ed (rowsD N L)) (fun a b => (a, b) ∈ l)) := weave_iso (unhide hu) (unhide hp) (unhide hNm)
  go_wp2
  go_loopw [22] (fun s22 wr => ∃ (t : Nat) (xs : Nat → Value), t ≤ lL ∧ s22 = .int .i64 t ∧ Hid (Wv w2.heap.size G n (rowsD N (L.take t)) xs wr) ∧ Hid (Below w2.heap.size w2 wr) ∧ Hid (Pr 41 M (.slice a5 lL c5) L wr)) (fun s22 _ => lL - (intOf s22).toNat)
  case atStart =>
    refine ⟨0, fun _ => .slice none 0 0, Nat.zero_le _, rfl, ?_, unhide b7, unhide p5h⟩
    have e0 : rowsD N (L.take 0) = fun _ => [] := by funext p; unfold rowsD; split <;> simp
    show Wv _ _ _ _ _ _
    rw [e0]
    exact unhide V5
  case round =>
    obtain ⟨t, xs, ht, rfl, V6, b8, R6⟩ := hrel
    by_cases hlt : t < lL
    · have hlt2 : t < L.length := by rw [← unhide hlL]; exact hlt
      obtain ⟨gE, rfl, d1, d2, _⟩ := (unhide R6).elem hlt2
      obtain ⟨x, hx⟩ : ∃ x, x = L.getD t (0, 0) := ⟨_, rfl⟩
      rw [← hx] at d1 d2
      have hxL : x ∈ L := by
        rw [hx, show L.getD t (0, 0) = L[t] by simp [List.getD, hlt2]]
        exact List.getElem_mem hlt2
      obtain ⟨hx1, hx2⟩ := (unhide hLN).1 x hxL
      obtain ⟨W7, hW7⟩ : ∃ W7, W7 = wr.alloc (.cells #[.int .i64 x.1, .int .i64 x.2] 41) := ⟨_, rfl⟩
      have b9 : Below wr.heap.size wr W7 := by rw [hW7]; exact below_new wr _
      have x7 : W7.heap[wr.heap.size]? = some (.cells #[.int .i64 x.1, .int .i64 x.2] 41 (0, 0)) := by rw [hW7]; exact heap_alloc_new wr _
      have k1 : W7.cell? ⟨wr.heap.size, 0, none⟩ = some (.int .i64 x.1) := by simp [World.cell?, x7]
      have k2 : W7.cell? ⟨wr.heap.size, 1, none⟩ = some (.int .i64 x.2) := by simp [World.cell?, x7]
      have b10 : Below w2.heap.size w2 W7 := (unhide b8).trans (b9.mono (unhide b8).size)
      have N7 : Rd W7 (.slice a2 n c2) N := (unhide I2h).rd.next b10
      have S1 := search_i W7 N7 (unhide hu) x.1 (by have := unhide hNl; omega)
      have S2 := search_i W7 N7 (unhide hu) x.2 (by have := unhide hNl; omega)
      rw [show decide (x.1 ∈ N) = true by simpa using hx1] at S1
      rw [show decide (x.2 ∈ N) = true by simpa using hx2] at S2
      have V7 := hide ((unhide V6).next b9)
      have R7 := hide ((unhide R6).next b9)
      have hsz : W7.heap.size = wr.heap.size + 1 := by rw [hW7]; simp
      replace S1 := hide S1
      replace S2 := hide S2
      replace hx := hide hx
      replace hx1 := hide hx1
      replace hx2 := hide hx2
      replace b10 := hide b10
      replace hsz := hide hsz
      rw [hW7] at k1 k2
      replace x7 := hide x7
      clear b9 N7 hxL
      go_wp2_with fail
      rw [← hW7] at k1 k2 ⊢
      replace hW7 := hide hW7
      refine (unhide S1).mono ?_
      rintro e w8 ⟨i, rfl, st1, rfl⟩
      obtain ⟨hi, ei⟩ := stand_in (unhide hu) (unhide st1) (unhide hx1)
      replace hi := hide hi
      replace ei := hide ei
      go_wp2_with fail
      refine (unhide S2).mono ?_
      rintro e w9 ⟨j, rfl, st2, rfl⟩
      obtain ⟨hj, ej⟩ := stand_in (unhide hu) (unhide st2) (unhide hx2)
      replace hj := hide hj
      replace ej := hide ej
      have hin : i < n := by rw [unhide hn]; exact unhide hi
      obtain ⟨m1, m2⟩ := (unhide V7).at_ hin
      have row7 := hide ((unhide V7).row i hin)
      obtain ⟨k, hk⟩ : ∃ k, k = (ci (rowsD N (L.take t) i)).length := ⟨_, rfl⟩
      have hk9 : k < 10000000 := by
        have := rows_len N (L.take t) i
        rw [List.length_take] at this
        rw [hk, ci_len]; have := unhide hLl; omega
      replace hk := hide hk
      have stp := hide (rows_step (unhide hu) hlt2 (unhide hi) (by rw [← unhide hx]; exact unhide ei) (unhide hj) (by rw [← unhide hx]; exact unhide ej))
      obtain ⟨u, hxu⟩ : ∃ u, u = xs i := ⟨_, rfl⟩
      rw [← hxu] at m1 row7
      replace hxu := hide hxu
      have key : Hid (∀ g cap w', Is w2.heap.size (.slice (some ⟨g, 0, none⟩) (k + 1) cap) (ci (rowsD N (L.take t) i) ++ [(j : Int)]) w' → w9.grownBy w' u.ownBlock → (u.ownBlock = some g ∨ g = w9.heap.size + 1) →
          Wv w2.heap.size G n (rowsD N (L.take (t + 1))) (upd xs i (.slice (some ⟨g, 0, none⟩) (k + 1) cap)) (w'.setCell ⟨G, i, none⟩ (.slice (some ⟨g, 0, none⟩) (k + 1) cap)) ∧ w'.cell? ⟨G, i, none⟩ = some u ∧ w'.frozen? ⟨G, i, none⟩ = false ∧ Below w2.heap.size w2 (w'.setCell ⟨G, i, none⟩ (.slice (some ⟨g, 0, none⟩) (k + 1) cap)) ∧ Pr 41 M (.slice (some ⟨gE, 0, none⟩) lL c5) L (w'.setCell ⟨G, i, none⟩ (.slice (some ⟨g, 0, none⟩) (k + 1) cap))) := by
        intro g cap w' q1 q2 q3
        obtain ⟨p1, p2, p3⟩ := (unhide V7).push (H := w9.heap.size + 1) (l' := rowsD N (L.take t) i ++ [j]) hin (by rw [ci_app]; exact q1) (by rw [← unhide hxu]; exact q2) (g := g) rfl (by rw [← unhide hxu]; exact q3) (by omega)
        refine ⟨by rw [unhide stp]; exact p1, by rw [unhide hxu]; exact p2, p3, ((unhide b10).grown q2 (unhide b10).size (fun k hk => ((unhide row7).lt k hk).1)).setCell (p := ⟨G, i, none⟩) (unhide V7).bB _, (unhide R7).keep fun z hz => ?_⟩
        obtain ⟨c, hc⟩ := (unhide R7).ty z hz
        obtain ⟨cG, hG1, _⟩ := (unhide V7).blk
        refine (heap_set_other _ _ (fun e => ?_)).trans (q2.block z (heap_lt hc) (fun e => ?_))
        · rw [← e, hc] at hG1; cases hG1
        · obtain ⟨c3, h3⟩ := (unhide row7).ty z e.symm
          rw [hc] at h3; cases h3
      have hbs : Hid (w2.heap.size ≤ w9.heap.size) := (unhide b10).size
      go_wp2_with (at_builtin; refine wpList_pushL _ rfl (.tmp 45) (.tmp 47) rfl w2.heap.size u k _ (j : Int) _ rfl rfl rfl (unhide hk).symm (unhide row7) (unhide hbs) hk9 ?_; intro g5 cap5 w10 a1 a2 a3; obtain ⟨f1, f2, f3, f4, f5⟩ := unhide key g5 cap5 w10 a1 a2 a3; replace a1 := hide a1; replace a2 := hide a2; replace a3 := hide a3; replace f1 := hide f1; replace f4 := hide f4; replace f5 := hide f5)
      go_roundw
      case rel => exact ⟨t + 1, _, by omega, by go_num, unhide f1, unhide f4, unhide f5⟩
      case measure => simp [intOf]; omega
    · obtain rfl : t = lL := by omega
      have oP := ((unhide b8).block _ (heap_lt (unhide o2))).trans (unhide o2)
      have c0 : wr.cell? ⟨w.heap.size, 0, none⟩ = some (.slice none 0 0) := by simp [World.cell?, oP]
      have c1 : wr.cell? ⟨w.heap.size, 1, none⟩ = some (.slice none 0 0) := by simp [World.cell?, oP]
      have z0 : wr.frozen? ⟨w.heap.size, 0, none⟩ = false := by simp [World.frozen?, oP]
      have z1 : wr.frozen? ⟨w.heap.size, 1, none⟩ = false := by simp [World.frozen?, oP]
      replace oP := hide oP
      go_wp2
      have hP := unhide oP
      have q1 := heap_set_one (.slice a2 n c2) hP
      have bP : Below w.heap.size w wr := (unhide B2).trans ((unhide b8).mono (unhide B2).size)
      have e9 : L.take t = L := by rw [unhide hlL]; exact List.take_length
      refine bodyPost_ret (v := .agg #[.slice a2 n c2, .slice (some ⟨G, 0, none⟩) n n]) (results_cell_row rfl _ _ w.heap.size 53 #[.slice a2 n c2, .slice (some ⟨G, 0, none⟩) n n] (0, 0) _ rfl (heap_set_two _ _ hP) Try.underlying53 rfl (by kernel_rfl)) rfl ?_
      have I9 := (((unhide I2h).next (unhide b8)).off hP (by decide) 0 (.slice a2 n c2)).off q1 (by decide) 1 (.slice (some ⟨G, 0, none⟩) n n)
      have V9 := ((unhide V6).off hP (by decide) (by decide) 0 (.slice a2 n c2)).off q1 (by decide) (by decide) 1 (.slice (some ⟨G, 0, none⟩) n n)
      rw [e9] at V9
      refine ⟨_, _, rowsD N L, rfl, ⟨I9.rd, I9.nz, ?_, unhide hu, (unhide hLN).2, fun p => rows_ris (unhide hu) (unhide hLN).1 (unhide hby) p, fun p => Nat.le_trans (rows_len N L p) (unhide hLl), unhide hNm⟩, (bP.setCell (p := ⟨w.heap.size, 0, none⟩) (Nat.le_refl _) _).setCell (p := ⟨w.heap.size, 1, none⟩) (Nat.le_refl _) _⟩
      rw [← unhide hn]
      exact V9.rows hn9
end Go.Proofs.Ytjgepcifknmdhaa
