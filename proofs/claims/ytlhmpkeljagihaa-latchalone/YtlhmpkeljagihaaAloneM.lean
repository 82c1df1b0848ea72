/- LatchAlone: the threads in memory. -/
import Derived.Test.YtlhmpkeljagihaaAloneG
import Derived.Test.YtlhmpkeljagihaaRow
import Derived.Deep.Cut
namespace Go.Proofs.Ytlhmpkeljagihaa
open Go.RowKit

theorem made_later {L : LS} {w w1 w' : World} {e : Ending} (hb : Below w.heap.size w w1) (h : Made L w1 e w') : Made L w e w' := by
  obtain ⟨b, he, hs, hl, hb2⟩ := h
  exact ⟨b, he, Nat.le_trans hb.size hs, hl, below_then hb hb2⟩
set_option maxRecDepth 100000 in
theorem opens_any (k : Nat) (h1 : 1 ≤ k) (h4 : k ≤ 4) (c : Cf) (t : Int) (rd : Bool) (w : World) :
    Calls Try.prog 13 #[cv c, .agg #[.int .i64 k, .int .i64 t, .int .i64 2, .bool rd]] w (Made (beginL k c t rd) w) := by
  have hb := below_then (below_new w (.cells #[.int .i64 c.r, .int .i64 c.o, .int .i64 c.s, .int .i64 c.d, .int .i64 c.t, .int .i64 c.l, .int .i64 c.g, .int .i64 c.k, .int .i64 c.u, .int .i64 c.e, .int .i64 c.i, .int .i64 c.p] 23)) (below_new _ (.cells #[.int .i64 k, .int .i64 t, .int .i64 2, .bool rd] 39))
  have hk : k = 1 ∨ k = 2 ∨ k = 3 ∨ k = 4 := by omega
  rcases hk with rfl | rfl | rfl | rfl
  · unfold cv
    replace hb := hide hb
    go_enter Try.func13, Try.ntmps13
    go_wp2_with fail
    refine (read_any c 2 t _).mono ?_
    intro e w1 hm
    have hm := made_later (unhide hb) hm
    obtain ⟨b, rfl, hs, hl, hb2⟩ := hm
    go_wp2
    go_ret
    exact ⟨b, rfl, hs, hl, hb2⟩
  · unfold cv
    replace hb := hide hb
    go_enter Try.func13, Try.ntmps13
    go_wp2_with fail
    refine (write_any c 2 t rd _).mono ?_
    intro e w1 hm
    have hm := made_later (unhide hb) hm
    obtain ⟨b, rfl, hs, hl, hb2⟩ := hm
    go_wp2
    go_ret
    exact ⟨b, rfl, hs, hl, hb2⟩
  · unfold cv
    replace hb := hide hb
    go_enter Try.func13, Try.ntmps13
    go_wp2_with fail
    refine (endRead_any c 2 t _).mono ?_
    intro e w1 hm
    have hm := made_later (unhide hb) hm
    obtain ⟨b, rfl, hs, hl, hb2⟩ := hm
    go_wp2
    go_ret
    exact ⟨b, rfl, hs, hl, hb2⟩
  · unfold cv
    replace hb := hide hb
    go_enter Try.func13, Try.ntmps13
    go_wp2_with fail
    refine (endWrite_any c 2 t _).mono ?_
    intro e w1 hm
    have hm := made_later (unhide hb) hm
    obtain ⟨b, rfl, hs, hl, hb2⟩ := hm
    go_wp2
    go_ret
    exact ⟨b, rfl, hs, hl, hb2⟩

def ptr (ph : Ph) (b : Nat) : Value := if live ph then .pointer (some ⟨b, 0, none⟩) else .pointer none
/-- The threads as they lie in memory: the rows at, kind, has in the blocks A, K, H; the latch of u in the block bs u. Of the thread x the latch is left out. -/
structure Al (W : World) (c : Cf) (B cb r A K H sl x : Nat) (P : Nat → Ph) (m : Mm) (bs : Nat → Nat) (kd : Nat → Int) (w : World) : Prop where
  env : Env W c B cb r 9 m w
  ra : w.rowIs A 35 16 (fun u => ptr (P u) (bs u))
  rk : w.rowIs K 54 16 (fun u => .int .i64 (kd u))
  rh : w.rowIs H 54 16 (fun u => .int .i64 (hasOf (P u) : Int))
  kk : ∀ u, live (P u) = true → kd u = (kindOf (P u) : Int)
  lat : ∀ u, u ≠ x → live (P u) = true → ∃ L, Lat w (bs u) L ∧ Fit sl u L (P u) ∧ Ok 9 L
  ow : ∀ u, live (P u) = true → Own W B cb r (bs u) ∧ bs u ≠ A ∧ bs u ≠ K ∧ bs u ≠ H
  inj : ∀ u v, live (P u) = true → live (P v) = true → u ≠ v → bs u ≠ bs v
/-- The three blocks are none of the others. -/
structure Ak (W : World) (B cb r A K H : Nat) : Prop where
  a : Own W B cb r A
  k : Own W B cb r K
  h : Own W B cb r H
  ak : A ≠ K
  ah : A ≠ H
  kh : K ≠ H
section
variable {W : World} {c : Cf} {B cb r A K H sl x : Nat} {P : Nat → Ph} {m : Mm} {bs : Nat → Nat} {kd : Nat → Int} {w : World}
theorem Al.next (h : Al W c B cb r A K H sl x P m bs kd w) {w' : World} (hb : Below w.heap.size w w') : Al W c B cb r A K H sl x P m bs kd w' :=
  ⟨h.env.next hb, h.ra.of_block (hb.block A h.ra.lt), h.rk.of_block (hb.block K h.rk.lt), h.rh.of_block (hb.block H h.rh.lt), h.kk, fun u hu hl => by obtain ⟨L, h1, h2, h3⟩ := h.lat u hu hl; exact ⟨L, h1.next hb, h2, h3⟩, h.ow, h.inj⟩
theorem Al.drew (h : Al W c B cb r A K H sl x P m bs kd w) : Al W c B cb r A K H sl x P m bs kd w.drew :=
  ⟨h.env.drew, h.ra, h.rk, h.rh, h.kk, h.lat, h.ow, h.inj⟩
theorem Al.opens (h : Al W c B cb r A K H sl x P m bs kd w) (n : Nat) (hx : n ≠ x) (hx' : live (P x) = false) (hn : live (P n) = true) : Al W c B cb r A K H sl n P m bs kd w ∧ ∃ L, Lat w (bs n) L ∧ Fit sl n L (P n) ∧ Ok 9 L :=
  ⟨⟨h.env, h.ra, h.rk, h.rh, h.kk, fun u _ hl => h.lat u (fun e => by subst e; rw [hx'] at hl; cases hl) hl, h.ow, h.inj⟩, h.lat n hx hn⟩
/-- The latch of x has been stepped. -/
theorem Al.tri (h : Al W c B cb r A K H sl x P m bs kd w) (ak : Ak W B cb r A K H) (hx : live (P x) = true) {w' : World} {m' : Mm} (hE : Env W c B cb r 9 m' w') (ht : Tri (bs x) cb r w w') : Al W c B cb r A K H sl x P m' bs kd w' := by
  obtain ⟨o, oA, oK, oH⟩ := h.ow x hx
  refine ⟨hE, h.ra.of_block (ht.block A (fun e => oA e.symm) ak.a.n1 ak.a.n2), h.rk.of_block (ht.block K (fun e => oK e.symm) ak.k.n1 ak.k.n2), h.rh.of_block (ht.block H (fun e => oH e.symm) ak.h.n1 ak.h.n2), h.kk, fun u hu hl => ?_, h.ow, h.inj⟩
  obtain ⟨L, h1, h2, h3⟩ := h.lat u hu hl
  exact ⟨L, h1.stays3 ht (h.inj u x hl hx hu) (h.ow u hl).1.n1 (h.ow u hl).1.n2, h2, h3⟩
/-- .. cancelled. -/
theorem Al.one (h : Al W c B cb r A K H sl x P m bs kd w) (hx : live (P x) = true) {w' : World} (ht : Touch (bs x) (bs x) w w') : Al W c B cb r A K H sl x P m bs kd w' := by
  obtain ⟨o, oA, oK, oH⟩ := h.ow x hx
  refine ⟨h.env.one o ht, h.ra.of_block (ht.block A (fun e => oA e.symm) (fun e => oA e.symm)), h.rk.of_block (ht.block K (fun e => oK e.symm) (fun e => oK e.symm)), h.rh.of_block (ht.block H (fun e => oH e.symm) (fun e => oH e.symm)), h.kk, fun u hu hl => ?_, h.ow, h.inj⟩
  obtain ⟨L, h1, h2, h3⟩ := h.lat u hu hl
  exact ⟨L, h1.stays ht (h.inj u x hl hx hu) (h.inj u x hl hx hu), h2, h3⟩
theorem upP_live {t : Nat} {ph : Ph} (h : live ph = live (P t)) (u : Nat) : live (upP P t ph u) = live (P u) := by
  unfold upP; split
  · rename_i e; rw [e, h]
  · rfl
/-- It goes on. -/
theorem Al.goes (h : Al W c B cb r A K H sl x P m bs kd w) (hx : live (P x) = true) {L : LS} {ph : Ph} (hl : Lat w (bs x) L) (hf : Fit sl x L ph) (ok : Ok 9 L) (hk : kindOf ph = kindOf (P x)) (hh : hasOf ph = hasOf (P x)) (y : Nat) : Al W c B cb r A K H sl y (upP P x ph) m bs kd w := by
  have lv : live ph = live (P x) := by
    rw [hx]; cases ph with
    | idle h' => exact hf.elim
    | _ => rfl
  have lu := upP_live (P := P) lv
  refine ⟨h.env, h.ra.congr (fun u _ => ?_), h.rk, h.rh.congr (fun u _ => ?_), fun u hu => ?_, fun u _ hu => ?_, fun u hu => ?_, fun u v hu hv hn => ?_⟩
  · unfold ptr; rw [lu]
  · unfold upP; split
    · rename_i e; rw [e, hh]
    · rfl
  · rw [lu] at hu
    rw [h.kk u hu]; unfold upP; split
    · rename_i e; rw [e, hk]
    · rfl
  · rw [lu] at hu
    by_cases e : u = x
    · subst e; exact ⟨L, hl, by rw [upP_at]; exact hf, ok⟩
    · obtain ⟨L', k1, k2, k3⟩ := h.lat u e hu
      exact ⟨L', k1, by rw [upP_ne P ph e]; exact k2, k3⟩
  · rw [lu] at hu; exact h.ow u hu
  · rw [lu] at hu hv; exact h.inj u v hu hv hn
/-- It has ended: the rows at and has have been written. -/
theorem Al.ends (h : Al W c B cb r A K H sl x P m bs kd w) {w' : World} (v y : Nat) (hE : Env W c B cb r 9 m w') (ht : ∀ k, k ≠ A → k ≠ H → w'.heap[k]? = w.heap[k]?) (ak : Ak W B cb r A K H)
    (ra : w'.rowIs A 35 16 (fun u => if u = x then .pointer none else ptr (P u) (bs u))) (rh : w'.rowIs H 54 16 (fun u => if u = x then .int .i64 (v : Int) else .int .i64 (hasOf (P u) : Int))) : Al W c B cb r A K H sl y (upP P x (.idle v)) m bs kd w' := by
  have lu : ∀ u, live (upP P x (.idle v) u) = true → u ≠ x ∧ live (P u) = true := fun u hu => by
    by_cases e : u = x
    · subst e; rw [upP_at] at hu; cases hu
    · rw [upP_ne P _ e] at hu; exact ⟨e, hu⟩
  refine ⟨hE, ra.congr (fun u _ => ?_), h.rk.of_block (ht K (fun e => ak.ak e.symm) ak.kh), rh.congr (fun u _ => ?_), fun u hu => ?_, fun u _ hu => ?_, fun u hu => ?_, fun a b ha hb hn => ?_⟩
  · by_cases e : u = x
    · subst e; rw [if_pos rfl, upP_at]; rfl
    · rw [if_neg e, upP_ne P _ e]
  · by_cases e : u = x
    · subst e; rw [if_pos rfl, upP_at]; rfl
    · rw [if_neg e, upP_ne P _ e]
  · obtain ⟨e, hl⟩ := lu u hu
    rw [upP_ne P _ e]; exact h.kk u hl
  · obtain ⟨e, hl⟩ := lu u hu
    obtain ⟨L', k1, k2, k3⟩ := h.lat u e hl
    exact ⟨L', (ht (bs u) (h.ow u hl).2.1 (h.ow u hl).2.2.2).trans k1, by rw [upP_ne P _ e]; exact k2, k3⟩
  · obtain ⟨e, hl⟩ := lu u hu
    exact h.ow u hl
  · exact h.inj a b (lu a ha).2 (lu b hb).2 hn
/-- A program has begun: its latch is new, the rows kind and at have been written. -/
theorem Al.born (h : Al W c B cb r A K H sl x P m bs kd w) {w' : World} {n b : Nat} (hx : live (P x) = false) (hn : live (P n) = false) {hh k : Nat} (hP : P n = .idle hh) (bo : Born hh k) (hE : Env W c B cb r 9 m w') (ak : Ak W B cb r A K H) (ob : Own W B cb r b) (nA : b ≠ A) (nK : b ≠ K) (nH : b ≠ H) (nb : ∀ u, live (P u) = true → bs u ≠ b)
    (ht : ∀ q, q < w.heap.size → q ≠ A → q ≠ K → w'.heap[q]? = w.heap[q]?) {L : LS} (hl : Lat w' b L) (hf : Fit sl n L (bornP hh k)) (ok : Ok 9 L)
    (ra : w'.rowIs A 35 16 (fun u => if u = n then .pointer (some ⟨b, 0, none⟩) else ptr (P u) (bs u))) (rk : w'.rowIs K 54 16 (fun u => if u = n then .int .i64 (k : Int) else .int .i64 (kd u))) (y : Nat) :
    Al W c B cb r A K H sl y (upP P n (bornP hh k)) m (fun u => if u = n then b else bs u) (fun u => if u = n then (k : Int) else kd u) w' := by
  obtain ⟨e1, e2, e3, _⟩ := born_all bo
  have lu : ∀ u, u ≠ n → upP P n (bornP hh k) u = P u := fun u e => upP_ne P _ e
  refine ⟨hE, ra.congr (fun u _ => ?_), rk.congr (fun u _ => ?_), (h.rh.of_block (ht H h.rh.lt (fun e => ak.ah e.symm) (fun e => ak.kh e.symm))).congr (fun u _ => ?_), fun u hu => ?_, fun u _ hu => ?_, fun u hu => ?_, fun p q hp hq hpq => ?_⟩
  · by_cases e : u = n
    · subst e; rw [if_pos rfl, if_pos rfl, upP_at]; unfold ptr; rw [e1]; rfl
    · rw [if_neg e, if_neg e, lu u e]
  · by_cases e : u = n
    · rw [if_pos e, if_pos e]
    · rw [if_neg e, if_neg e]
  · by_cases e : u = n
    · subst e; rw [upP_at, e3, hP]; rfl
    · rw [lu u e]
  · by_cases e : u = n
    · subst e; rw [if_pos rfl, upP_at, e2]
    · rw [lu u e] at hu ⊢; rw [if_neg e]; exact h.kk u hu
  · by_cases e : u = n
    · subst e; rw [if_pos rfl, upP_at]; exact ⟨L, hl, hf, ok⟩
    · rw [lu u e] at hu ⊢; rw [if_neg e]
      obtain ⟨L', k1, k2, k3⟩ := h.lat u (fun e' => by subst e'; rw [hx] at hu; cases hu) hu
      exact ⟨L', (ht (bs u) k1.lt (h.ow u hu).2.1 (h.ow u hu).2.2.1).trans k1, k2, k3⟩
  · by_cases e : u = n
    · subst e; rw [if_pos rfl]; exact ⟨ob, nA, nK, nH⟩
    · rw [lu u e] at hu; rw [if_neg e]; exact h.ow u hu
  · by_cases ep : p = n
    · subst ep
      have eq : q ≠ p := fun e => hpq e.symm
      rw [lu q eq] at hq
      rw [if_pos rfl, if_neg eq]; exact fun e => nb q hq e.symm
    · rw [lu p ep] at hp
      rw [if_neg ep]
      by_cases eq : q = n
      · rw [if_pos eq]; exact nb p hp
      · rw [lu q eq] at hq; rw [if_neg eq]; exact h.inj p q hp hq hpq
end
end Go.Proofs.Ytlhmpkeljagihaa
