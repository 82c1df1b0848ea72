/- Texts of this claim, put together in their order. -/
import Derived.Maps.OwnIn
import Derived.Test.YtjgepcifknmdhaaBase1
import Derived.Test.YtjgepcifknmdhaaBase2
import Derived.Test.YtjgepcifknmdhaaBase3
import Derived.Test.YtjgepcifknmdhaaBase4
/- wayBack. -/
namespace Go.Proofs.Ytjgepcifknmdhaa
open Go.RowKit
variable {W0 : World} {b gl cl ge ce n : Nat} {nx : Nat → List Nat}

/-- The rounds of wayBack. -/
structure Br (W0 : World) (b gl cl ge ce n : Nat) (nx : Nat → List Nat) (f : Nat) (w : World) (s : Ws) : Prop where
  wk : Wk W0 b gl cl ge ce n s.LF s.En s.P s.wv w
  st : (s.P = [] ∧ ¬ On (Ed nx) f) ∨ ∃ q v, s.P = q ++ [v] ∧ Sw nx f s.LF s.En q v
  lt : ∀ x ∈ s.P, x < n
  nd : s.P.Nodup
namespace Br
variable {f : Nat} {w w' : World} {LF : Nat → List Nat} {En : Nat → Bool} {q out : List Nat} {v : Nat} {wv wv' : Value}
theorem sw (h : Br W0 b gl cl ge ce n nx f w ⟨LF, En, q ++ [v], out, wv⟩) : Sw nx f LF En q v := by
  rcases h.st with ⟨h1, _⟩ | ⟨q', v', h1, h2⟩
  · have h3 : q ++ [v] = [] := h1
    simp at h3
  · obtain ⟨e1, e2⟩ := snoc_inj (show q ++ [v] = q' ++ [v'] from h1)
    subst e1 e2
    exact h2
theorem few (h : Br W0 b gl cl ge ce n nx f w ⟨LF, En, q ++ [v], out, wv⟩) (hn : n ≤ 1000) : q.length ≤ 1000 := by
  have h4 := nd_le n _ h.nd h.lt
  have h6 : (q ++ [v]).length ≤ n := h4
  rw [List.length_append, List.length_singleton] at h6
  omega
theorem again (h : Br W0 b gl cl ge ce n nx f w ⟨LF, En, q ++ [v], out, wv⟩) {t : Nat} {r : List Nat} (e : LF v = t :: r) (ht : t ≠ f) (hE : En t = true) (k : Wk W0 b gl cl ge ce n (upd LF v r) En (q ++ [v]) wv w') :
    Br W0 b gl cl ge ce n nx f w' ⟨upd LF v r, En, q ++ [v], out, wv⟩ ∧ Ws.left n ⟨upd LF v r, En, q ++ [v], out, wv⟩ < Ws.left n ⟨LF, En, q ++ [v], out, wv⟩ := by
  refine ⟨⟨k, .inr ⟨q, v, rfl, h.sw.again e ht hE⟩, h.lt, h.nd⟩, ?_⟩
  have := sum_upd (LF := LF) (r := r) n (h.lt v (by simp))
  rw [e, List.length_cons] at this
  unfold Ws.left
  show 2 * sumL (upd LF v r) n + (q ++ [v]).length < 2 * sumL LF n + (q ++ [v]).length
  omega
theorem go (h : Br W0 b gl cl ge ce n nx f w ⟨LF, En, q ++ [v], out, wv⟩) {t : Nat} {r : List Nat} (e : LF v = t :: r) (ht : t ≠ f) (htn : t < n) (hE : En t = false) (k : Wk W0 b gl cl ge ce n (upd LF v r) (upd En t true) (q ++ [v] ++ [t]) wv' w') :
    Br W0 b gl cl ge ce n nx f w' ⟨upd LF v r, upd En t true, q ++ [v] ++ [t], out, wv'⟩ ∧ Ws.left n ⟨upd LF v r, upd En t true, q ++ [v] ++ [t], out, wv'⟩ < Ws.left n ⟨LF, En, q ++ [v], out, wv⟩ := by
  have s2 := h.sw.go e ht hE
  refine ⟨⟨k, .inr ⟨q ++ [v], t, rfl, s2⟩, fun x hx => ?_, s2.nd⟩, ?_⟩
  · rcases List.mem_append.1 hx with hx | hx
    · exact h.lt x hx
    · rw [List.mem_singleton.1 hx]; exact htn
  · have := sum_upd (LF := LF) (r := r) n (h.lt v (by simp))
    rw [e, List.length_cons] at this
    unfold Ws.left
    show 2 * sumL (upd LF v r) n + (q ++ [v] ++ [t]).length < 2 * sumL LF n + (q ++ [v]).length
    rw [List.length_append, List.length_singleton]
    omega
theorem back (h : Br W0 b gl cl ge ce n nx f w ⟨LF, En, q ++ [v], out, wv⟩) (e : LF v = []) (k : Wk W0 b gl cl ge ce n LF En q wv' w') :
    Br W0 b gl cl ge ce n nx f w' ⟨LF, En, q, out, wv'⟩ ∧ Ws.left n ⟨LF, En, q, out, wv'⟩ < Ws.left n ⟨LF, En, q ++ [v], out, wv⟩ := by
  have hnd : q.Nodup := by
    have := h.nd
    have h2 : (q ++ [v]).Nodup := this
    rw [List.nodup_append] at h2
    exact h2.1
  refine ⟨⟨k, ?_, fun x hx => h.lt x (List.mem_append_left _ hx), hnd⟩, ?_⟩
  · rcases nil_or_snoc q with rfl | ⟨q', u, rfl⟩
    · exact .inl ⟨rfl, h.sw.none e⟩
    · exact .inr ⟨q', u, rfl, h.sw.back e⟩
  · unfold Ws.left
    show 2 * sumL LF n + q.length < 2 * sumL LF n + (q ++ [v]).length
    rw [List.length_append, List.length_singleton]
    omega
end Br
/-- What wayBack answers. -/
def WabPost (w : World) (nx : Nat → List Nat) (f : Nat) (e : Ending) (w' : World) : Prop :=
  ∃ (rv : Value) (P : List Nat), e = .returned rv ∧ Is w.heap.size rv (ci P) w' ∧ ((P = [] ∧ ¬ On (Ed nx) f) ∨ (P ≠ [] ∧ On (Ed nx) f ∧ ((∀ x, On (Ed nx) x → f ≤ x) → Circ (Ed nx) P))) ∧ P.length ≤ 1000 ∧ (∀ x ∈ P, x < 1000) ∧ Below w.heap.size w w'
set_option maxRecDepth 100000 in
set_option maxHeartbeats 4000000 in
theorem wab_any (w : World) {v1 v2 : Value} {N : List Int} (hN : Rd w v1 N) (hNn : N.length = n) (h : Rws w v2 n nx) {f : Nat} (hf : f < n) (hb : ∀ x, x < n → ∀ y ∈ nx x, y < n) (hs : ∀ x, Ris (nx x)) (hn : n ≤ 1000) (hl : ∀ x, x < n → (nx x).length < 1000000) :
    Calls Try.prog 38 #[.agg #[v1, v2], .int .i64 f] w (WabPost w nx f) := by
  obtain ⟨W1, hW1⟩ : ∃ W1, W1 = w.alloc (.cells #[v1, v2] 53) := ⟨_, rfl⟩
  have b1 : Below w.heap.size w W1 := by rw [hW1]; exact below_new w _
  have o1 : W1.heap[w.heap.size]? = some (.cells #[v1, v2] 53 (0, 0)) := by rw [hW1]; exact heap_alloc_new w _
  have k0 : W1.cell? ⟨w.heap.size, 0, none⟩ = some v1 := by simp [World.cell?, o1]
  have k1 : W1.cell? ⟨w.heap.size, 1, none⟩ = some v2 := by simp [World.cell?, o1]
  have C1 := hide (walk_any W1 (hN.next b1) hNn (h.next b1) hn)
  obtain ⟨a1, c1, rfl, _⟩ := hN
  obtain ⟨G2, cap2, rfl⟩ := h.form
  obtain ⟨nn, hnn⟩ : ∃ nn, nn = N.length := ⟨_, rfl⟩
  rw [← hnn] at k0 C1 hW1 ⊢
  rw [hW1] at k0 k1
  replace hnn := hide hnn
  replace b1 := hide b1
  replace hb := hide hb
  replace hl := hide hl
  replace hs := hide hs
  clear h o1
  go_enter Try.func38, Try.ntmps38
  go_wp2_with fail
  rw [← hW1] at k0 k1 ⊢
  replace hW1 := hide hW1
  refine (unhide C1).mono ?_
  rintro e w2 ⟨b, gl, cl, ge, ce, rfl, K2⟩
  clear k0 k1
  have C2 := hide (enter_new w2 K2 hf rfl (by simp))
  clear K2
  go_wp2_with fail
  refine (unhide C2).mono ?_
  rintro e w3 ⟨wv3, rfl, k3, t3⟩
  have A1 : Hid (Br W1 b gl cl ge ce n nx f w3 ⟨nx, upd (fun _ => false) f true, [f], [], wv3⟩) :=
    ⟨k3, .inr ⟨[], f, rfl, Sw.start nx f⟩, fun x hx => by rw [List.mem_singleton.1 hx]; exact hf, by simp⟩
  clear k3 t3 C1 C2
  go_wp2
  go_loopw [6] (fun _ wr => ∃ (s : Ws), Hid (Br W1 b gl cl ge ce n nx f wr s)) (fun _ wr => lo (fun s => Hid (Br W1 b gl cl ge ce n nx f wr s)) (Ws.left n))
  case atStart => exact ⟨_, unhide A1⟩
  case round =>
    obtain ⟨⟨LF1, En1, P1, out1, wv1⟩, A2, hlo⟩ := lo_at (Ws.left n) hrel
    clear hrel
    replace hlo := hide hlo
    rcases nil_or_snoc P1 with rfl | ⟨q, v, rfl⟩
    · obtain ⟨a1, c1, e1⟩ := (unhide A2).wk.way.form
      have e2 : wv1 = .slice a1 0 c1 := e1
      subst e2
      have c2 := (unhide A2).wk.c2
      have hno : Hid (¬ On (Ed nx) f) := by
        rcases (unhide A2).st with ⟨_, h⟩ | ⟨q, v, h, _⟩
        · exact h
        · have h3 : [] = q ++ [v] := h
          simp at h3
      clear e1
      go_wp2
      go_ret
      exact ⟨_, [], rfl, is_nil _ _, .inl ⟨rfl, unhide hno⟩, Nat.zero_le _, fun x hx => (by cases hx), (unhide b1).trans ((unhide A2).wk.low.mono (unhide b1).size)⟩
    · have hq9 := (unhide A2).few hn
      have hv : v < n := (unhide A2).lt v (by simp)
      obtain ⟨pre, e1, _⟩ := (unhide A2).sw.top
      have hL9 : (LF1 v).length < 1000000 := by
        have h1 := unhide hl v hv
        have h2 : nx v = pre ++ LF1 v := e1
        rw [h2, List.length_append] at h1
        omega
      obtain ⟨gw, cw, ew, _, _, _⟩ := is_some (unhide A2).wk.way (by show 0 < (ci (q ++ [v])).length; rw [ci_len]; simp)
      have ew2 : wv1 = .slice (some ⟨gw, 0, none⟩) (q.length + 1) cw := by
        have h2 : wv1 = .slice (some ⟨gw, 0, none⟩) (ci (q ++ [v])).length cw := ew
        rwa [ci_len, List.length_append, List.length_singleton] at h2
      have c2 : wr.cell? ⟨b, 2, none⟩ = some (.slice (some ⟨gw, 0, none⟩) (q.length + 1) cw) := by
        have h1 := (unhide A2).wk.c2
        rw [← ew2]
        exact h1
      replace ew2 := hide ew2
      replace e1 := hide e1
      clear ew
      cases hL : LF1 v with
      | nil =>
        replace hL := hide hL
        go_wp2_with fail
        refine (try_none wr (unhide A2).wk (by omega) hv (unhide hL)).mono ?_
        rintro e w2 ⟨rfl, k2, t2⟩
        replace k2 := hide k2
        clear c2 t2
        go_wp2_with fail
        refine (leave_any w2 (unhide k2) (by omega)).mono ?_
        rintro e w3 ⟨wv3, rfl, k3, t3⟩
        have f1 := hide ((unhide A2).back (unhide hL) k3)
        clear k3 t3
        go_wp2
        go_roundw
        case rel => exact ⟨_, (unhide f1).1⟩
        case measure => exact Nat.lt_of_le_of_lt (lo_le (unhide f1).1) (by rw [unhide hlo]; exact (unhide f1).2)
      | cons t r =>
        have hr9 : r.length < 1000000 := by rw [hL, List.length_cons] at hL9; omega
        have htn : t < n := all_lt (unhide hb) hv (unhide e1) hL
        replace hL := hide hL
        go_wp2_with fail
        refine (try_some wr (unhide A2).wk (by omega) hv (unhide hL) hr9).mono ?_
        rintro e w2 ⟨rfl, k2, t2⟩
        clear c2
        by_cases htf : t = f
        · have hft : ((t : Int) == (f : Int)) = true := by rw [htf]; simp
          have c3 := k2.c2
          rw [unhide ew2] at c3
          have sw := (unhide A2).sw
          have eL : LF1 v = f :: r := by rw [← htf]; exact unhide hL
          have fin : Hid (On (Ed nx) f ∧ ((∀ x, On (Ed nx) x → f ≤ x) → Circ (Ed nx) (q ++ [v]))) := ⟨sw.found_on eL, fun h => sw.found eL (unhide hs) h⟩
          have hway := hide (k2.way.down (unhide b1).size)
          rw [unhide ew2] at hway
          have hbl := hide ((unhide b1).trans (k2.low.mono (unhide b1).size))
          have hpl : Hid ((q ++ [v]).length ≤ 1000) := Nat.le_trans (nd_le n _ (unhide A2).nd (unhide A2).lt) hn
          have hpn : Hid (∀ x ∈ q ++ [v], x < 1000) := fun x hx => Nat.lt_of_lt_of_le ((unhide A2).lt x hx) hn
          clear k2 t2 eL sw htf
          go_wp2
          go_ret
          exact ⟨_, q ++ [v], rfl, unhide hway, .inr ⟨by simp, (unhide fin).1, (unhide fin).2⟩, unhide hpl, unhide hpn, unhide hbl⟩
        · have hft : ((t : Int) == (f : Int)) = false := by
            simp only [beq_eq_false_iff_ne]
            omega
          replace k2 := hide k2
          clear t2
          cases hE : En1 t
          · replace hE := hide hE
            replace htf := hide htf
            go_wp2_with fail
            refine (enter_new w2 (unhide k2) htn (unhide hE) (by rw [List.length_append, List.length_singleton]; omega)).mono ?_
            rintro e w3 ⟨wv3, rfl, k3, t3⟩
            have f1 := hide ((unhide A2).go (unhide hL) (unhide htf) htn (unhide hE) k3)
            clear k3 t3
            go_wp2
            go_roundw
            case rel => exact ⟨_, (unhide f1).1⟩
            case measure => exact Nat.lt_of_le_of_lt (lo_le (unhide f1).1) (by rw [unhide hlo]; exact (unhide f1).2)
          · replace hE := hide hE
            replace htf := hide htf
            go_wp2_with fail
            refine (enter_old w2 (unhide k2) htn (unhide hE)).mono ?_
            rintro e w3 ⟨rfl, rfl⟩
            have f1 := hide ((unhide A2).again (unhide hL) (unhide htf) (unhide hE) (unhide k2))
            go_wp2
            go_roundw
            case rel => exact ⟨_, (unhide f1).1⟩
            case measure => exact Nat.lt_of_le_of_lt (lo_le (unhide f1).1) (by rw [unhide hlo]; exact (unhide f1).2)
end Go.Proofs.Ytjgepcifknmdhaa

/- The library's Min; lowestOn. -/
namespace Go.Proofs.Ytjgepcifknmdhaa
open Go.RowKit

set_option maxRecDepth 100000 in
set_option maxHeartbeats 1000000 in
theorem min_any (w : World) {v : Value} {l : List Int} (h : Rd w v l) (hl : 0 < l.length) (hl9 : l.length < 1000000) :
    Calls Try.prog 57 #[v] w fun e w' => ∃ m : Int, e = .returned (.int .i64 m) ∧ Hid (m ∈ l ∧ ∀ x ∈ l, m ≤ x) ∧ w' = w := by
  obtain ⟨a, cap, rfl, hs⟩ := h
  obtain ⟨g, o, rfl, d0⟩ := seg_at hs hl
  rw [Nat.add_zero] at d0
  have HS := hide hs
  have hl0 : ¬ ((l.length : Int) < 1) := by omega
  clear hs
  obtain ⟨x0, hx0⟩ : ∃ x, x = l.getD 0 0 := ⟨_, rfl⟩
  rw [← hx0] at d0
  replace hx0 := hide hx0
  go_enter Try.func57, Try.ntmps57
  go_wp2
  go_loop [3, 4] (fun s3 s4 => ∃ (m : Int) (t : Nat), 1 ≤ t ∧ t ≤ l.length ∧ s3 = .int .i64 m ∧ s4 = .int .i64 t ∧ Hid (m ∈ l ∧ ∀ j, j < t → m ≤ l.getD j 0)) (fun _ s4 => l.length - (intOf s4).toNat)
  case atStart => exact ⟨x0, 1, Nat.le_refl _, hl, rfl, rfl, by rw [unhide hx0]; exact at_mem hl, fun j hj => by
    obtain rfl : j = 0 := by omega
    rw [unhide hx0]; exact Int.le_refl _⟩
  case round =>
    obtain ⟨m, t, h1, ht, rfl, rfl, hm⟩ := hrel
    by_cases hlt : t < l.length
    · obtain ⟨g', o', e', d1⟩ := seg_at (unhide HS) hlt
      injection e' with e'
      injection e' with e1 e2
      subst e1 e2
      obtain ⟨x, hx⟩ : ∃ x, x = l.getD t 0 := ⟨_, rfl⟩
      rw [← hx] at d1
      have hxm : x ∈ l := by rw [hx]; exact at_mem hlt
      replace hx := hide hx
      replace hxm := hide hxm
      by_cases hmx : m ≤ x
      · have e1 : min m x = m := by omega
        go_wp2
        go_round
        case rel => exact ⟨m, t + 1, by omega, by omega, by first | rfl | exact congrArg _ e1 | (simp [e1]) , by go_num, (unhide hm).1, fun j hj => by
          rcases (show j < t ∨ j = t by omega) with h | rfl
          · exact (unhide hm).2 j h
          · rw [← unhide hx]; exact hmx⟩
        case measure => simp [intOf]; omega
      · have e1 : min m x = x := by omega
        go_wp2
        go_round
        case rel => exact ⟨x, t + 1, by omega, by omega, by first | rfl | exact congrArg _ e1 | (simp [e1]), by go_num, unhide hxm, fun j hj => by
          rcases (show j < t ∨ j = t by omega) with h | rfl
          · have := (unhide hm).2 j h; omega
          · rw [← unhide hx]; exact Int.le_refl _⟩
        case measure => simp [intOf]; omega
    · go_wp2
      go_ret
      exact ⟨m, rfl, ⟨(unhide hm).1, fun x hx => by
        obtain ⟨j, hj, e⟩ := mem_at hx
        rw [← e]
        exact (unhide hm).2 j (by omega)⟩, rfl⟩
end Go.Proofs.Ytjgepcifknmdhaa

/- slices.Backward at numbers. -/
namespace Go.Proofs.Ytjgepcifknmdhaa
open Go.RowKit Go.Shelf

attribute [local go_sem] Oper.semAt_some

/-- The row and its box stay. -/
def Ko (go Bs : Nat) (W W' : World) : Prop := W'.heap[go]? = W.heap[go]? ∧ W'.heap[Bs]? = W.heap[Bs]?
theorem ko_t {go Bs : Nat} {A B C : World} (h : Ko go Bs A B) (k : Ko go Bs B C) : Ko go Bs A C := ⟨k.1.trans h.1, k.2.trans h.2⟩
/-- The places from N - 1 down to m. -/
def dn (N m : Nat) : List Nat := (List.range (N - m)).map (fun j => N - 1 - j)
theorem dn_step {N m : Nat} (hm : m < N) : dn N m = dn N (m + 1) ++ [m] := by
  unfold dn
  rw [show N - m = (N - (m + 1)) + 1 by omega, List.range_succ, List.map_append]
  congr 1
  simp
  omega
theorem dn_len (N m : Nat) : (dn N m).length = N - m := by simp [dn]
theorem dn_none (N : Nat) : dn N N = [] := by simp [dn]
theorem dn_mem {N m x : Nat} (hm : m ≤ N) : x ∈ dn N m ↔ m ≤ x ∧ x < N := by
  unfold dn
  rw [List.mem_map]
  constructor
  · rintro ⟨j, hj, rfl⟩
    have := List.mem_range.1 hj
    omega
  · rintro ⟨h1, h2⟩
    exact ⟨N - 1 - x, List.mem_range.2 (by omega), by omega⟩
theorem dn_snoc {N m x : Nat} {p : List Nat} (hm : m ≤ N) (h : p ++ [x] = dn N m) : x = m ∧ m < N ∧ p = dn N (m + 1) := by
  rcases Nat.lt_or_ge m N with k | k
  · rw [dn_step k] at h
    obtain ⟨e1, e2⟩ := snoc_inj h
    exact ⟨e2, k, e1⟩
  · obtain rfl : m = N := by omega
    rw [dn_none] at h
    simp at h
set_option maxRecDepth 100000 in
set_option maxHeartbeats 2000000 in
theorem bk1_in (F : Fence) (n : Nat) (hF : F.fn 95) (hro : F.round = none) (hn : 1 ≤ n) (l Bs go : Nat) {v : Value} {L : List Int} (hL : L.length ≤ 2000) (w : World) (hR : Rd w v L) (hgo : ∀ a m c, v = .slice (some a) m c → a.block = go)
    (hBs : w.heap[Bs]? = some (.cells #[v] 23 (0, 0))) (J Jx : List Nat → World → Prop)
    (hY : ∀ pre x W, x < L.length → J pre W → pre.length < L.length → YieldAt F (n - 1) Try.prog l #[.int .i64 ((x : Nat) : Int), .int .i64 (L.getD x 0)] W fun e W' =>
      (e = .returned (.bool true) ∧ J (pre ++ [x]) W' ∧ Ko go Bs W W') ∨ (e = .returned (.bool false) ∧ Jx (pre ++ [x]) W'))
    (W : World) (hW : Ko go Bs w W) (h0 : J [] W) :
    CallsIn F n Try.prog 95 #[.func (.yield l) #[] #[], .pointer (some ⟨Bs, 0, none⟩)] W fun e W' => (∃ v, e = .returned v) ∧
      ((∃ ys, ys = dn L.length 0 ∧ J ys W') ∨ (∃ pre, True ∧ Jx pre W')) := by
  have cB : ∀ W', Ko go Bs w W' → W'.cell? ⟨Bs, 0, none⟩ = some v := fun W' hk => by
    have := hk.2.trans hBs
    simp [World.cell?, this]
  have cR : ∀ W', Ko go Bs w W' → ∀ i, i < L.length → ∃ o, (∃ m c, v = .slice (some ⟨go, o, none⟩) m c) ∧ W'.cell? ⟨go, o + i, none⟩ = some (.int .i64 (L.getD i 0)) := fun W' hk i hi => by
    obtain ⟨a, c, e, s⟩ := hR
    obtain ⟨g, o, e2, d⟩ := seg_at s hi
    subst e2
    have e3 := hgo _ _ _ e
    dsimp only at e3
    subst e3
    refine ⟨o, ⟨_, _, e⟩, ?_⟩
    rw [← d]
    simp [World.cell?, hk.1]
  have c0 := cB W hW
  obtain ⟨a, cap, rfl, hs⟩ := hR
  clear hs
  obtain ⟨N, hN⟩ : ∃ N, N = L.length := ⟨_, rfl⟩
  rw [← hN] at c0 cB cR ⊢
  have hY2 := hY
  rw [← hN] at hL
  replace hN := hide hN
  refine callsIn_of_wp Try.func95 rfl hF ?_ hro
  simp only [Try.ntmps95, List.size_toArray, List.length_cons, List.length_nil, Nat.reduceAdd, Nat.reduceSub, Array.replicate_succ, Array.replicate_zero, List.push_toArray, List.append_toArray, List.nil_append, List.cons_append]
  gi_wp2
  gi_loopw [3] (fun i wr => ∃ m : Nat, m ≤ N ∧ i = .int .i64 ((m : Int) - 1) ∧ J (dn N m) wr ∧ Ko go Bs w wr)
    (fun i _ => (intOf i + 1).toNat)
  case atStart => exact ⟨N, Nat.le_refl _, rfl, by rw [dn_none]; exact h0, hW⟩
  case round =>
    obtain ⟨m, hm, rfl, hJs, hk⟩ := hrel
    rcases m with _ | m
    · gi_wp2
      go_end0
      exact ⟨⟨_, rfl⟩, .inl ⟨_, rfl, hJs⟩⟩
    · have e1 : ((m + 1 : Nat) : Int) - 1 = (m : Int) := by omega
      rw [e1]
      have b1 := cB _ hk
      obtain ⟨o, ⟨m9, c9, e9⟩, b2⟩ := cR _ hk m (by omega)
      have e10 : a = some ⟨go, o, none⟩ := by injection e9
      clear e9
      subst e10
      have hmN : (m : Int) < (N : Int) := by omega
      have hmN2 : m < L.length := by have := unhide hN; omega
      obtain ⟨y, hy0⟩ : ∃ y, y = L.getD m 0 := ⟨_, rfl⟩
      obtain ⟨fn, tmps, assign, body, hy, hR⟩ := hY2 _ m _ hmN2 hJs (by rw [dn_len]; have := unhide hN; omega)
      rw [← hy0] at hy b2
      replace hy0 := hide hy0
      gi_wp2
      refine hR.mono ?_
      rintro e W3 (⟨rfl, hJ3, hk3⟩ | ⟨rfl, hJx3⟩)
      · gi_wp2
        go_roundw
        case rel => exact ⟨m, by omega, by go_num, by rw [dn_step (by omega)]; exact hJ3, ko_t hk hk3⟩
        case measure => simp [intOf] <;> omega
      · gi_wp2
        refine bodyPost_ret (results_none rfl _ _ _) rfl ?_
        exact ⟨⟨_, rfl⟩, .inr ⟨_, trivial, hJx3⟩⟩
set_option maxHeartbeats 1000000 in
theorem back_in (F : Fence) (n : Nat) (hF : F.fn 78) (hro : F.round = none) (a : Option Addr) (len cap : Nat) (w : World) :
    CallsIn F n Try.prog 78 #[.slice a len cap] w fun e w' => e = .returned (.func (.func 95) #[] #[.pointer (some ⟨w.heap.size, 0, none⟩)]) ∧ w' = w.alloc (.cells #[.slice a len cap] 23) := by
  refine callsIn_of_wp Try.func78 rfl hF ?_ hro
  simp only [Try.ntmps78, List.size_toArray, List.length_cons, List.length_nil, Nat.reduceAdd, Nat.reduceSub, Array.replicate_succ, Array.replicate_zero, List.push_toArray, List.append_toArray, List.nil_append, List.cons_append]
  gi_wp2
  go_ret
  exact ⟨rfl, rfl⟩
theorem back_stops (F : Fence) (n : Nat) (hF : F.fn 95) (hro : F.round = none) (hn : 1 ≤ n) (Bs go : Nat) {v : Value} {L : List Int} (hL : L.length ≤ 2000) (w : World) (hR : Rd w v L) (hgo : ∀ a m c, v = .slice (some a) m c → a.block = go) (hg : go < w.heap.size) (hBs : w.heap[Bs]? = some (.cells #[v] 23 (0, 0))) :
    SeqStopsK F n Try.prog 95 #[.pointer (some ⟨Bs, 0, none⟩)] (fun x : { x : Nat // x < L.length } => #[Value.int .i64 (x.1 : Int), .int .i64 (L.getD x.1 0)]) (Ko go Bs) (fun ys => ys.map (·.1) = dn L.length 0) (fun _ => True) L.length w := fun l J Jx W hW _ _ hY h0 => by
  refine (bk1_in F n hF hro hn l Bs go hL w hR hgo hBs (fun pre W => ∃ p : List { x : Nat // x < L.length }, p.map (·.1) = pre ∧ J p W) (fun pre W => ∃ p : List { x : Nat // x < L.length }, p.map (·.1) = pre ∧ Jx p W) ?_ W ⟨hW.block _ hg, hW.block _ (heap_lt hBs)⟩ ⟨[], rfl, h0⟩).mono ?_
  · rintro pre x W1 hx ⟨p, rfl, hp⟩ hl
    refine (hY p ⟨x, hx⟩ W1 hp (by simpa using hl)).mono ?_
    rintro e W' (⟨e1, e2, e3⟩ | ⟨e1, e2⟩)
    · exact .inl ⟨e1, ⟨_, by simp, e2⟩, e3⟩
    · exact .inr ⟨e1, ⟨_, by simp, e2⟩⟩
  · rintro e W' ⟨he, ⟨ys, rfl, p, hp, hJ⟩ | ⟨pre, _, p, _, hJ⟩⟩
    · exact ⟨he, .inl ⟨p, hp, hJ⟩⟩
    · exact ⟨he, .inr ⟨p, trivial, hJ⟩⟩
end Go.Proofs.Ytjgepcifknmdhaa

/- groups: what its two passes keep. -/
namespace Go.Proofs.Ytjgepcifknmdhaa
open Go.RowKit Go.Shelf

/-- Numbers behind numbers, and where they lie then. -/
theorem app_isL {M M' : Nat} {u v : Value} {l m : List Int} {w : World} (ty : TypeId) (hu : Is M u l w) (hv : Is M' v m w) (hM : M ≤ w.heap.size) (hl : l.length + m.length ≤ 100000000) :
    ∃ v' w', (Builtin.append_ #[23, 23] ty #[u, v]).run Try.prog w = .ok v' w' ∧ Is M v' (l ++ m) w' ∧ w.grownBy w' u.ownBlock ∧ (v'.ownBlock = u.ownBlock ∨ v'.ownBlock = some w.heap.size) := by
  obtain ⟨i0, hi, hz0, hz1, hz2⟩ := info_parts inf3
  have up : ∀ v' w', w'.ownsRow M 3 1 v' (l.length + m.length) (vals l ++ vals m) → Is M v' (l ++ m) w' := fun v' w' h => by
    unfold Is vals
    rw [List.length_append, List.map_append]
    exact h
  rcases hv.2 with ⟨rfl, h0⟩ | ⟨g, cap, cur, rfl, hB, hg, h2, h3, h4, h5⟩
  · obtain rfl : m = [] := List.eq_nil_of_length_eq_zero h0
    have hr := run_append_owned_none (P := Try.prog) (w := w) M 23 ty 3 i0 1 Try.underlying23 hi u l.length _ hu
    exact ⟨u, w, hr, by simpa using hu, ⟨rfl, rfl, rfl, Nat.le_refl _, fun _ _ _ => rfl⟩, .inl rfl⟩
  · have hnews : ∀ j x, (vals m)[j]? = some x → w.cell? ((⟨g, 0, none⟩ : Addr).add j) = some x := fun j x hj => by
      have hjm : j < m.length := by
        have := (List.getElem?_eq_some_iff.1 hj).1
        simpa [vals] using this
      have h6 : cur.toList.take (m.length * 1) = vals m := h5
      rw [← h6, List.getElem?_take_of_lt (by omega)] at hj
      rw [Addr.add_lit, Nat.zero_add]
      simp [World.cell?, hg]
      simpa using hj
    obtain ⟨v', w', hr, k2, k3, _, k5⟩ := run_append_own_at (P := Try.prog) w M 23 ty 3 i0 (.int .i64 0) 1 8 Try.underlying23 hi hz0 hz1 hz2 rfl (by decide) u l.length _ hu ⟨g, 0, none⟩ m.length cap (vals m) (by simp [vals]) hnews (vals_one m) (by unfold maxLen; omega) (by omega) hM
    exact ⟨v', w', hr, up _ _ k2, k3, k5⟩
theorem wpListIn_app {F : Fence} {n : Nat} (w : World) {ops : Array Oper} {rest : List Oper} {o : Oper} {a : Act} {Q : Exit → Act → World → Prop}
    (hg : o.guard = none) (s x : Operand) (hop : o.op = Op.call { callee := Callee.builtin Builtin.append, args := #[s, x], argTypes := #[23, 23] })
    {M M' : Nat} (u v : Value) (l m : List Int) (hs : a.eval s = u) (hx : a.eval x = v) (hu : Is M u l w) (hv : Is M' v m w) (hM : M ≤ w.heap.size) (hl : l.length + m.length ≤ 100000000)
    (hK : ∀ v' w', Is M v' (l ++ m) w' → w.grownBy w' u.ownBlock → (v'.ownBlock = u.ownBlock ∨ v'.ownBlock = some w.heap.size) → wpListIn F n Try.prog ops Q rest (a.put o.dst v') w') :
    wpListIn F n Try.prog ops Q (o :: rest) a w := by
  refine wpListIn_plain hg fun K hK' => ?_
  obtain ⟨v', w', hrun, r1, r2, r3⟩ := app_isL o.type hu hv hM hl
  unfold Oper.wpIn
  refine ⟨?_, ?_⟩
  · simp [Oper.about, hop, resolve, Target.leads, Sem.run_pure]
  · rw [Oper.semAt_plain F _ _ (by rw [hop]; intro c hc'; cases hc')]
    simp [execOp, hop, resolve, invoke, builtin, hs, hx, hrun, Result.andThen]
    exact hK' _ _ (hK v' w' r1 r2 r3)
/-- What is of no type that a walk turns stays. -/
theorem Tw.stays {W0 w w' : World} {b gl cl ge ce n : Nat} {LF : Nat → List Nat} {En : Nat → Bool} {P : List Nat} {wv wv' : Value} (t : Tw b gl ge wv wv' w w') (k : Wk W0 b gl cl ge ce n LF En P wv w) {j : Nat} {cur : Array Value} {ty : TypeId} (h : w.heap[j]? = some (.cells cur ty (0, 0))) (h1 : ty ≠ 77) (h2 : ty ≠ 23) (h3 : ty ≠ 4) (h4 : ty ≠ 3) : w'.heap[j]? = some (.cells cur ty (0, 0)) := by
  refine (t.block j (heap_lt h) (fun e => ?_) (fun e => ?_) (fun e => ?_) (fun e => ?_)).trans h
  · rw [e, k.blk] at h; cases h; exact h1 rfl
  · obtain ⟨c, hc, _⟩ := k.lft
    rw [e, hc] at h; cases h; exact h2 rfl
  · obtain ⟨c, hc, _⟩ := k.ent
    rw [e, hc] at h; cases h; exact h3 rfl
  · obtain ⟨c, hc⟩ := k.way.ty j e
    rw [hc] at h; cases h; exact h4 rfl
theorem Is.keeps {M : Nat} {v : Value} {l : List Int} {w w' : World} (h : Is M v l w) (g : w.grownBy w' v.ownBlock) {j : Nat} {cur : Array Value} {ty : TypeId} (hj : w.heap[j]? = some (.cells cur ty (0, 0))) (h4 : ty ≠ 3) : w'.heap[j]? = some (.cells cur ty (0, 0)) :=
  (g.block j (heap_lt hj) (fun e => by
    obtain ⟨c, hc⟩ := h.ty j e.symm
    rw [hj] at hc; cases hc; exact h4 rfl)).trans hj
/-- The first pass: the places below t have been left. -/
structure G1 (W0 : World) (b gl cl ge ce n : Nat) (nx : Nat → List Nat) (kb t : Nat) (ov : Value) (LF : Nat → List Nat) (En : Nat → Bool) (wv : Value) (O : List Nat) (w : World) : Prop where
  wk : Wk W0 b gl cl ge ce n LF En [] wv w
  fi : Fi nx O LF En
  is : Is W0.heap.size ov (ci O) w
  ap : ∀ k, wv.ownBlock = some k → ov.ownBlock ≠ some k
  lt : ∀ x ∈ O, x < n
  up : ∀ x, x < t → x ∈ O
  kbx : w.heap[kb]? = some (.cells #[.pointer (some ⟨b, 0, none⟩)] 72 (0, 0))
/-- One place more. -/
theorem G1.step {W0 : World} {b gl cl ge ce n : Nat} {nx : Nat → List Nat} {kb t : Nat} {ov : Value} {LF : Nat → List Nat} {En : Nat → Bool} {wv : Value} {O : List Nat} {w : World} (h : G1 W0 b gl cl ge ce n nx kb t ov LF En wv O w) {e : Ending} {w1 : World} (p : AllPost W0 b gl cl ge ce n nx t O wv w e w1) :
    ∃ ov2 out, e = .returned ov2 ∧ Is w.heap.size ov2 (ci out) w1 ∧ Is W0.heap.size ov (ci O) w1 ∧ W0.heap.size ≤ w1.heap.size ∧ (∀ x ∈ out, x < n) ∧ (O ++ out).Nodup ∧ ∀ v' w2, Is W0.heap.size v' (ci O ++ ci out) w2 → w1.grownBy w2 ov.ownBlock → (v'.ownBlock = ov.ownBlock ∨ v'.ownBlock = some w1.heap.size) →
      ∃ LF' En' wv', G1 W0 b gl cl ge ce n nx kb (t + 1) v' LF' En' wv' (O ++ out) w2 := by
  obtain ⟨ov2, wv', out, LF', En', rfl, i2, k2, t2, f2, r2, m2, _, _⟩ := p
  obtain ⟨i3, a3⟩ := h.is.tw h.wk t2 h.ap
  refine ⟨ov2, out, rfl, i2, i3, k2.low.size, fun x hx => (r2 x hx).2, f2.nd, fun v' w2 j1 j2 j3 => ⟨LF', En', wv', k2.beside i3 j2 (Nat.le_refl _) a3, f2, by rw [ci_app]; exact j1, fun k e1 e2 => ?_, fun x hx => ?_, fun x hx => ?_, i3.keeps j2 (t2.stays h.wk h.kbx (by decide) (by decide) (by decide) (by decide)) (by decide)⟩⟩
  · rcases j3 with j3 | j3
    · rw [j3] at e2
      exact a3 k e1 e2
    · rw [j3] at e2
      injection e2 with e2
      have := (k2.way.lt k e1).2
      omega
  · rcases List.mem_append.1 hx with hx | hx
    · exact h.lt x hx
    · exact (r2 x hx).2
  · by_cases q : x < t
    · exact List.mem_append_left _ (h.up x q)
    · obtain rfl : x = t := by omega
      exact m2
/-- A cell that holds no number is turned: what is read stays. -/
theorem SegK.off {w : World} {a : Option Addr} {len kb : Nat} {l : List Int} {u : Value} (h : SegK .i64 w a len l) (hk : w.cell? ⟨kb, 0, none⟩ = some u) (hu : ∀ i, u ≠ .int .i64 i) (v : Value) : SegK .i64 (w.setCell ⟨kb, 0, none⟩ v) a len l := by
  refine ⟨h.1, ?_⟩
  rcases h.2 with h0 | ⟨b, off, e, h2⟩
  · exact .inl h0
  · refine .inr ⟨b, off, e, fun i hi => ?_⟩
    have h3 := h2 i hi
    rw [← h3]
    refine World.cell?_setCell_other _ _ _ _ (fun e2 => ?_)
    rw [← e2, hk] at h3
    injection h3 with h3
    exact hu _ h3
theorem Rc.off {w : World} {kb : Nat} {x : Value} {l : List Int} {u : Value} (h : Rc w x l) (hk : w.cell? ⟨kb, 0, none⟩ = some u) (hu : ∀ i, u ≠ .int .i64 i) (v : Value) : Rc (w.setCell ⟨kb, 0, none⟩ v) x l := by
  obtain ⟨a, cap, e, s, r⟩ := h
  exact ⟨a, cap, e, s.off hk hu v, r⟩
/-- The walk, seen from behind a turn of a box that holds no number. -/
theorem Wk.rebase {W0 w : World} {b gl cl ge ce n kb : Nat} {LF : Nat → List Nat} {En : Nat → Bool} {P : List Nat} {wv : Value} (k : Wk W0 b gl cl ge ce n LF En P wv w) {u u' : Value} {ty : TypeId} (h : W0.heap[kb]? = some (.cells #[u] ty (0, 0))) (hw : w.heap[kb]? = some (.cells #[u'] ty (0, 0))) (hu : ∀ i, u ≠ .int .i64 i) (t1 : ty ≠ 77) (t2 : ty ≠ 23) (t3 : ty ≠ 4) (t4 : ty ≠ 3) (v : Value) :
    Wk (W0.setCell ⟨kb, 0, none⟩ v) b gl cl ge ce n LF En P wv (w.setCell ⟨kb, 0, none⟩ v) := by
  have hww := (k.low.block _ (heap_lt h)).trans h
  have hk0 : W0.cell? ⟨kb, 0, none⟩ = some u := by simp [World.cell?, h]
  have nb : ∀ {j : Nat} {cur : Array Value} {ty' : TypeId}, w.heap[j]? = some (.cells cur ty' (0, 0)) → ty ≠ ty' → j ≠ kb := fun hj ht e => by
    rw [e, hw] at hj; cases hj; exact ht rfl
  obtain ⟨c1, h1, h2⟩ := k.lft
  obtain ⟨c3, h3, h4⟩ := k.ent
  have hsz : (W0.setCell ⟨kb, 0, none⟩ v).heap.size = W0.heap.size := size_set _ _ _
  refine ⟨⟨k.low.os, k.low.tape, k.low.output, by rw [size_set, size_set]; exact k.low.size, fun j hj => ?_⟩, (heap_set_other _ _ (nb k.blk t1)).trans k.blk, ⟨c1, (heap_set_other _ _ (nb h1 t2)).trans h1, fun i hi => ?_⟩, ⟨c3, (heap_set_other _ _ (nb h3 t3)).trans h3, h4⟩, ?_, by rw [hsz]; exact k.b0, by rw [hsz]; exact k.l0, by rw [hsz]; exact k.e0⟩
  · rw [hsz] at hj
    by_cases e : j = kb
    · subst e
      show (w.heap.modify j _)[j]? = (W0.heap.modify j _)[j]?
      rw [Array.getElem?_modify, if_pos rfl, Array.getElem?_modify, if_pos rfl, hww, h]
    · rw [heap_set_other _ _ e, heap_set_other _ _ e]
      exact k.low.block j hj
  · obtain ⟨x, e1, e2⟩ := h2 i hi
    exact ⟨x, e1, e2.off hk0 hu v⟩
  · rw [hsz]
    exact k.way.off hw t4 0 v
/-- The row of groups. -/
def Vr (M : Nat) (v : Value) (gs : List Value) (w : World) : Prop := w.ownsRow M 23 1 v gs.length gs
/-- The second pass: the groups so far. -/
structure G2 (w0 W0 : World) (b gl cl ge ce n : Nat) (nx tx : Nat → List Nat) (kb ob Bs : Nat) (ov : Value) (O1 : List Nat) (M : Nat) (N : Nat) (pre : List Nat) (LF : Nat → List Nat) (En : Nat → Bool) (wv : Value) (O : List Nat) (G : List (List Nat)) (outv : Value) (gs : List Value) (w : World) : Prop where
  wk : Wk W0 b gl cl ge ce n LF En [] wv w
  fi : Fi tx O LF En
  kbx : w.heap[kb]? = some (.cells #[.pointer (some ⟨b, 0, none⟩)] 72 (0, 0))
  obx : w.heap[ob]? = some (.cells #[outv] 51 (0, 0))
  vr : Vr M outv gs w
  len : gs.length = G.length
  row : ∀ i, i < gs.length → Is w0.heap.size (gs.getD i undef) (ci (G.getD i [])) w ∧ ∀ k, wv.ownBlock = some k → (gs.getD i undef).ownBlock ≠ some k
  is : Is w0.heap.size ov (ci O1) w
  ap : ∀ k, wv.ownBlock = some k → ov.ownBlock ≠ some k
  glM : gl < M
  low : Below w0.heap.size w0 w
  few : G.length ≤ O.length
  ltn : ∀ x ∈ O, x < n
  gln : ∀ g ∈ G, g ≠ [] ∧ ∀ x ∈ g, x < n
  bs : w.heap[Bs]? = some (.cells #[ov] 23 (0, 0)) ∧ Bs < M ∧ Bs ≠ gl
  obM : w0.heap.size ≤ ob ∧ ob < W0.heap.size ∧ W0.heap.size ≤ M
  mM : w0.heap.size ≤ M
  mW : M ≤ w.heap.size
  ok : (∃ m, m ≤ N ∧ pre = dn N m) → Gs nx O G ∧ ∀ x ∈ pre, O1.getD x 0 ∈ O
theorem Tw.others {W0 w w' : World} {b gl cl ge ce n : Nat} {LF : Nat → List Nat} {En : Nat → Bool} {P : List Nat} {wv wv' : Value} (t : Tw b gl ge wv wv' w w') (k : Wk W0 b gl cl ge ce n LF En P wv w) : KeepsOthers w w' := by
  refine ⟨t.size, fun j o hj ho => (t.block j (heap_lt hj) (fun e => ?_) (fun e => ?_) (fun e => ?_) (fun e => ?_)).trans hj⟩
  · rw [e, k.blk] at hj; exact not_cells (Option.some.inj hj).symm ho
  · obtain ⟨c, hc, _⟩ := k.lft
    rw [e, hc] at hj; exact not_cells (Option.some.inj hj).symm ho
  · obtain ⟨c, hc, _⟩ := k.ent
    rw [e, hc] at hj; exact not_cells (Option.some.inj hj).symm ho
  · obtain ⟨c, hc⟩ := k.way.ty j e
    rw [hc] at hj; exact not_cells (Option.some.inj hj).symm ho
namespace Vr
variable {M : Nat} {v : Value} {gs : List Value} {w w' : World}
theorem ty (h : Vr M v gs w) : ∀ g, v.ownBlock = some g → ∃ cur, w.heap[g]? = some (.cells cur 23 (0, 0)) := by
  rcases h.2 with ⟨rfl, _⟩ | ⟨g, cap, cur, rfl, _, hg, _⟩
  · intro k hk; cases hk
  · intro k hk
    obtain rfl : g = k := by simpa [Value.ownBlock] using hk
    exact ⟨_, hg⟩
theorem keep (h : Vr M v gs w) (k : ∀ g, v.ownBlock = some g → w'.heap[g]? = w.heap[g]?) : Vr M v gs w' := by
  refine ⟨h.1, ?_⟩
  rcases h.2 with h0 | ⟨g, cap, cur, rfl, hB, hg, r⟩
  · exact .inl h0
  · exact .inr ⟨g, cap, cur, rfl, hB, (k g rfl).trans hg, r⟩
theorem lt (h : Vr M v gs w) : ∀ g, v.ownBlock = some g → M ≤ g ∧ g < w.heap.size := World.ownsRow.lt h
theorem keeps (h : Vr M v gs w) (g : w.grownBy w' v.ownBlock) {j : Nat} {cur : Array Value} {ty : TypeId} (hj : w.heap[j]? = some (.cells cur ty (0, 0))) (h4 : ty ≠ 23 ∨ j < M) : w'.heap[j]? = some (.cells cur ty (0, 0)) :=
  (g.block j (heap_lt hj) (fun e => by
    obtain ⟨c, hc⟩ := h.ty j e.symm
    rw [hj] at hc
    rcases h4 with h4 | h4
    · cases hc; exact h4 rfl
    · have := (h.lt j e.symm).1; omega)).trans hj
theorem others (h : Vr M v gs w) (g : w.grownBy w' v.ownBlock) : KeepsOthers w w' :=
  ⟨g.size, fun k o hk ho => (g.block k (heap_lt hk) (fun e => by
    obtain ⟨c, hc⟩ := h.ty k e.symm
    rw [hc] at hk
    exact not_cells (Option.some.inj hk).symm ho)).trans hk⟩
end Vr
/-- A row of groups is turned: the walk stays. -/
theorem Wk.besideV {M : Nat} {ov wv : Value} {gs : List Value} {w w' W0 : World} {b gl cl ge ce n : Nat} {LF : Nat → List Nat} {En : Nat → Bool} {P : List Nat} (k : Wk W0 b gl cl ge ce n LF En P wv w) (h : Vr M ov gs w) (hg : w.grownBy w' ov.ownBlock) (hM : W0.heap.size ≤ M) (hgl : gl < M) : Wk W0 b gl cl ge ce n LF En P wv w' := by
  obtain ⟨c1, h1, h2⟩ := k.lft
  obtain ⟨c3, h3, h4⟩ := k.ent
  exact ⟨k.low.grown hg k.low.size (fun j e => Nat.le_trans hM (h.lt j e).1), h.keeps hg k.blk (.inl (by decide)), ⟨c1, h.keeps hg h1 (.inr hgl), h2⟩, ⟨c3, h.keeps hg h3 (.inl (by decide)), h4⟩,
    k.way.keep fun j hj => hg.block j (k.way.lt j hj).2 (fun e => by
      obtain ⟨c, hc⟩ := h.ty j e.symm
      obtain ⟨c2, hc2⟩ := k.way.ty j hj
      rw [hc] at hc2; cases hc2), k.b0, k.l0, k.e0⟩
end Go.Proofs.Ytjgepcifknmdhaa

/- groups: a round of its second pass. -/
namespace Go.Proofs.Ytjgepcifknmdhaa
open Go.RowKit

theorem getD_snoc {α : Type} (l : List α) (x d : α) (i : Nat) : (l ++ [x]).getD i d = if i < l.length then l.getD i d else if i = l.length then x else d := by
  simp only [List.getD_eq_getElem?_getD]
  by_cases h : i < l.length
  · rw [if_pos h, List.getElem?_append_left h]
  · rw [if_neg h]
    by_cases h2 : i = l.length
    · subst h2; simp
    · rw [if_neg h2, List.getElem?_eq_none (by rw [List.length_append, List.length_singleton]; omega)]; rfl
theorem split_at {l : List Nat} {x : Nat} (hx : x < l.length) : l = l.take x ++ l.getD x 0 :: l.drop (x + 1) := by
  have e : l.getD x 0 = l[x] := by simp [List.getD, hx]
  rw [e, List.getElem_cons_drop, List.take_append_drop]
theorem mem_drop {l : List Nat} {x k : Nat} (h : k ∈ l.drop x) : ∃ j, x ≤ j ∧ j < l.length ∧ l.getD j 0 = k := by
  obtain ⟨i, hi, e⟩ := List.getElem_of_mem h
  rw [List.length_drop] at hi
  refine ⟨x + i, by omega, by omega, ?_⟩
  rw [List.getElem_drop] at e
  have : x + i < l.length := by omega
  simp [List.getD, this, e]
section
variable {w0 W0 : World} {b gl cl ge ce n : Nat} {nx tx : Nat → List Nat} {kb ob Bs : Nat} {ov : Value} {O1 : List Nat} {M N : Nat} {pre : List Nat} {LF : Nat → List Nat} {En : Nat → Bool} {wv : Value} {O : List Nat} {G : List (List Nat)} {outv : Value} {gs : List Value} {W : World}
theorem G2.step (h : G2 w0 W0 b gl cl ge ce n nx tx kb ob Bs ov O1 M N pre LF En wv O G outv gs W) (ht : ∀ x y, Ed tx x y ↔ Ed nx y x) (hL : KK nx O1) (hnd : O1.Nodup) (hc : ∀ x ∈ O1, ∀ y, Ed nx x y → y ∈ O1) (hall : ∀ x y, Ed nx x y → x ∈ O1) (hN : N = O1.length) {x : Nat} (hx : x < N) {go : Nat} (hgo : ov.ownBlock = some go) {e : Ending} {w1 : World} (p : AllPost W0 b gl cl ge ce n tx (O1.getD x 0) O wv W e w1) :
    ∃ (ov2 : Value) (out : List Nat), e = .returned ov2 ∧ (∃ a c, ov2 = .slice a out.length c) ∧ out.length ≤ n ∧ (O1.getD x 0 ∈ O ↔ out = []) ∧ KeepsOthers W w1 ∧ Ko go Bs W w1 ∧
      (out = [] → ∃ LF' En' wv', G2 w0 W0 b gl cl ge ce n nx tx kb ob Bs ov O1 M N (pre ++ [x]) LF' En' wv' O G outv gs w1) ∧
      (out ≠ [] → Vr M outv gs w1 ∧ w1.heap[ob]? = some (.cells #[outv] 51 (0, 0)) ∧ M ≤ w1.heap.size ∧ ov2.oneCell' = true ∧ ∀ v' w2, Vr M v' (gs ++ [ov2]) w2 → w1.grownBy w2 outv.ownBlock →
        w2.heap[ob]? = some (.cells #[outv] 51 (0, 0)) ∧ KeepsOthers W (w2.setCell ⟨ob, 0, none⟩ v') ∧ Ko go Bs W (w2.setCell ⟨ob, 0, none⟩ v') ∧
        ∃ W0' LF' En' wv', W0'.heap.size = W0.heap.size ∧ G2 w0 W0' b gl cl ge ce n nx tx kb ob Bs ov O1 M N (pre ++ [x]) LF' En' wv' (O ++ out) (G ++ [out]) v' (gs ++ [ov2]) (w2.setCell ⟨ob, 0, none⟩ v')) := by
  obtain ⟨ov2, wv', out, LF', En', rfl, i2, k2, t2, f2, r2, m2, n2, d2⟩ := p
  have hgoty : ∃ c, W.heap[go]? = some (.cells c 3 (0, 0)) := h.is.ty go hgo
  obtain ⟨i3, a3⟩ := h.is.tw h.wk t2 h.ap
  obtain ⟨b1, b2, b3⟩ := h.bs
  obtain ⟨o1, o2, o3⟩ := h.obM
  have kb1 := t2.stays h.wk h.kbx (by decide) (by decide) (by decide) (by decide)
  have ob1 := t2.stays h.wk h.obx (by decide) (by decide) (by decide) (by decide)
  have bs1 : w1.heap[Bs]? = W.heap[Bs]? := by
    refine t2.block Bs (heap_lt b1) (fun e => ?_) b3 (fun e => ?_) (fun e => ?_)
    · have := h.wk.blk; rw [← e, b1] at this; cases this
    · obtain ⟨c, hc, _⟩ := h.wk.ent
      rw [← e, b1] at hc; cases hc
    · obtain ⟨c, hc⟩ := h.wk.way.ty Bs e
      rw [b1] at hc; cases hc
  have go1 : w1.heap[go]? = W.heap[go]? := by
    obtain ⟨cgo, hcgo⟩ := hgoty
    refine t2.block go (heap_lt hcgo) (fun e => ?_) (fun e => ?_) (fun e => ?_) (fun e => h.ap go e hgo)
    · have := h.wk.blk; rw [← e, hcgo] at this; cases this
    · obtain ⟨c, hc, _⟩ := h.wk.lft
      rw [← e, hcgo] at hc; cases hc
    · obtain ⟨c, hc, _⟩ := h.wk.ent
      rw [← e, hcgo] at hc; cases hc
  have vr1 : Vr M outv gs w1 := h.vr.keep fun g hg => by
    obtain ⟨c, hcg⟩ := h.vr.ty g hg
    have hlt := h.vr.lt g hg
    refine t2.block g hlt.2 (fun e => ?_) (fun e => ?_) (fun e => ?_) (fun e => ?_)
    · have := h.wk.blk; rw [← e, hcg] at this; cases this
    · have := h.glM; omega
    · obtain ⟨c, hc, _⟩ := h.wk.ent
      rw [← e, hcg] at hc; cases hc
    · obtain ⟨c, hc⟩ := h.wk.way.ty g e
      rw [hcg] at hc; cases hc
  have row1 : ∀ i, i < gs.length → Is w0.heap.size (gs.getD i undef) (ci (G.getD i [])) w1 ∧ ∀ k, wv'.ownBlock = some k → (gs.getD i undef).ownBlock ≠ some k := fun i hi => by
    obtain ⟨r1, r3⟩ := h.row i hi
    exact r1.tw h.wk t2 r3
  have low0 : w0.heap.size ≤ W0.heap.size := by omega
  have low1 : Below w0.heap.size w0 w1 := h.low.trans (t2.below (Nat.le_trans low0 h.wk.b0) (Nat.le_trans low0 h.wk.l0) (Nat.le_trans low0 h.wk.e0) (fun k e => Nat.le_trans low0 (h.wk.way.lt k e).1) h.low.size)
  have hMW : M ≤ w1.heap.size := Nat.le_trans h.mW t2.size
  have hxO : x < O1.length := by omega
  have good : (∃ m, m ≤ N ∧ pre ++ [x] = dn N m) → (∃ m, m ≤ N ∧ pre = dn N m) ∧ ∀ y, x < y → y < O1.length → y ∈ pre := by
    rintro ⟨m, hm, hd⟩
    obtain ⟨e1, e2, e3⟩ := dn_snoc hm hd
    refine ⟨⟨m + 1, by omega, e3⟩, fun y hy1 hy2 => ?_⟩
    rw [e3, dn_mem (by omega)]
    omega
  obtain ⟨a9, c9, e9⟩ := i2.form
  rw [ci_len] at e9
  have hol : out.length ≤ n := by
    have := f2.nd
    rw [List.nodup_append] at this
    exact nd_le n out this.2.1 (fun x hx => (r2 x hx).2)
  refine ⟨ov2, out, rfl, ⟨a9, c9, e9⟩, hol, ⟨n2, fun ho => by rw [ho, List.append_nil] at m2; exact m2⟩, t2.others h.wk, ⟨go1, bs1⟩, fun ho => ?_, fun ho => ?_⟩
  · subst ho
    rw [List.append_nil] at f2 m2
    refine ⟨LF', En', wv', ⟨k2, f2, kb1, ob1, vr1, h.len, row1, i3, a3, h.glM, low1, h.few, h.ltn, h.gln, ⟨bs1.trans b1, b2, b3⟩, ⟨o1, o2, o3⟩, h.mM, hMW, fun hg => ?_⟩⟩
    obtain ⟨g1, _⟩ := good hg
    obtain ⟨q1, q2⟩ := h.ok g1
    refine ⟨q1, fun y hy => ?_⟩
    rcases List.mem_append.1 hy with hy | hy
    · exact q2 y hy
    · rw [List.mem_singleton.1 hy]; exact m2
  · have hpO : O1.getD x 0 ∉ O := fun k => ho (n2 k)
    have hpo : O1.getD x 0 ∈ out := by
      rcases List.mem_append.1 m2 with k | k
      · exact absurd k hpO
      · exact k
    have hint : ∀ i, outv ≠ .int .i64 i := by
      rcases h.vr.2 with ⟨e, _⟩ | ⟨g, cap, cur, e, _⟩
      · intro i; rw [e]; intro k; cases k
      · intro i; rw [e]; intro k; cases k
    refine ⟨vr1, ob1, hMW, by rw [e9]; rfl, fun v' w2 j1 j2 => ?_⟩
    have ob2 := vr1.keeps j2 ob1 (.inl (by decide))
    have kb2 := vr1.keeps j2 kb1 (.inl (by decide))
    have bs2 := vr1.keeps j2 (bs1.trans b1) (.inr b2)
    obtain ⟨cgo, hcgo⟩ := hgoty
    have go2 := vr1.keeps j2 (go1.trans hcgo) (.inl (by decide))
    have k3 := k2.besideV vr1 j2 o3 h.glM
    have hob0 : W0.heap[ob]? = some (.cells #[outv] 51 (0, 0)) := (k2.low.block ob o2).symm.trans ob1
    have k4 := k3.rebase hob0 ob2 hint (by decide) (by decide) (by decide) (by decide) v'
    have nob : ∀ {j : Nat} {cur : Array Value} {ty' : TypeId}, w2.heap[j]? = some (.cells cur ty' (0, 0)) → 51 ≠ ty' → j ≠ ob := fun hj ht e => by
      rw [e, ob2] at hj; cases hj; exact ht rfl
    have keep3 : ∀ {v : Value} {l : List Int}, Is w0.heap.size v l w1 → Is w0.heap.size v l (w2.setCell ⟨ob, 0, none⟩ v') := fun {v l} q => by
      have q2 : Is w0.heap.size v l w2 := q.keep fun g hg => by
        obtain ⟨c, hcg⟩ := q.ty g hg
        exact (vr1.keeps j2 hcg (.inl (by decide))).trans hcg.symm
      exact q2.off ob2 (by decide) 0 v'
    have lg : gs.length = G.length := h.len
    refine ⟨ob2, ((t2.others h.wk).trans (vr1.others j2)).trans (KeepsOthers.setCell _ _ _), ⟨(heap_set_other _ _ (nob go2 (by decide))).trans (go2.trans hcgo.symm), (heap_set_other _ _ (nob bs2 (by decide))).trans (bs2.trans b1.symm)⟩, _, LF', En', wv', size_set _ _ _,
      ⟨k4, f2, (heap_set_other _ _ (nob kb2 (by decide))).trans kb2, heap_set_same _ ob2, j1.keep fun g hg => ?_, by rw [List.length_append, List.length_append, lg]; rfl, fun i hi => ?_, keep3 i3, a3, h.glM, (low1.grown j2 low1.size (fun k hk => Nat.le_trans h.mM (vr1.lt k hk).1)).setCell (p := ⟨ob, 0, none⟩) o1 v', ?_, fun y hy => ?_, fun g hg => ?_, ⟨(heap_set_other _ _ (nob bs2 (by decide))).trans bs2, b2, b3⟩, ⟨o1, by rw [size_set]; exact o2, by rw [size_set]; exact o3⟩, h.mM, by rw [size_set]; exact Nat.le_trans hMW j2.size, fun hg => ?_⟩⟩
    · obtain ⟨c, hcg⟩ := j1.ty g hg
      exact heap_set_other _ _ (nob hcg (by decide))
    · rw [getD_snoc, getD_snoc]
      by_cases q : i < gs.length
      · rw [if_pos q, if_pos (by omega)]
        obtain ⟨r1, r3⟩ := row1 i q
        exact ⟨keep3 r1, r3⟩
      · have hi2 : i = gs.length := by
          rw [List.length_append, List.length_singleton] at hi; omega
        rw [if_neg q, if_pos hi2, if_neg (by omega), if_pos (by omega)]
        exact ⟨keep3 (i2.down h.low.size), d2⟩
    · rw [List.length_append, List.length_append, List.length_singleton]
      have := h.few
      have : 0 < out.length := List.length_pos_iff.2 ho
      omega
    · rcases List.mem_append.1 hy with hy | hy
      · exact h.ltn y hy
      · exact (r2 y hy).2
    · rcases List.mem_append.1 hg with hg | hg
      · exact h.gln g hg
      · rw [List.mem_singleton.1 hg]
        exact ⟨ho, fun y hy => (r2 y hy).2⟩
    · obtain ⟨g1, g2⟩ := good hg
      obtain ⟨q1, q2⟩ := h.ok g1
      refine ⟨gs_step ht hL hnd hc hall (split_at hxO) (fun y hy => ?_) q1 f2 (fun y hy => (r2 y hy).1) hpo, fun y hy => ?_⟩
      · obtain ⟨z, z1, z2, z3⟩ := mem_drop hy
        rw [← z3]
        exact q2 z (g2 z (by omega) z2)
      · rcases List.mem_append.1 hy with hy | hy
        · exact List.mem_append_left _ (q2 y hy)
        · rw [List.mem_singleton.1 hy]; exact List.mem_append_right _ hpo
theorem Wk.cz {W' : World} {P : List Nat} (k : Wk W0 b gl cl ge ce n LF En P wv W) (c : Cz W W') (hb : Below W0.heap.size W0 W') : Wk W0 b gl cl ge ce n LF En P wv W' := by
  obtain ⟨c1, h1, h2⟩ := k.lft
  obtain ⟨c3, h3, h4⟩ := k.ent
  exact ⟨hb, c _ _ _ _ k.blk, ⟨c1, c _ _ _ _ h1, h2⟩, ⟨c3, c _ _ _ _ h3, h4⟩, k.way.cz c, k.b0, k.l0, k.e0⟩
theorem Vr.cz {W' : World} {v : Value} (h : Vr M v gs W) (c : Cz W W') : Vr M v gs W' := h.keep fun g hg => by
  obtain ⟨cur, hc⟩ := h.ty g hg
  rw [c g _ _ _ hc, hc]
theorem G2.cz {W' : World} (h : G2 w0 W0 b gl cl ge ce n nx tx kb ob Bs ov O1 M N pre LF En wv O G outv gs W) (c : Cz W W') (hb : Below W0.heap.size W0 W') (hb0 : Below w0.heap.size w0 W') (hs : W.heap.size ≤ W'.heap.size) : G2 w0 W0 b gl cl ge ce n nx tx kb ob Bs ov O1 M N pre LF En wv O G outv gs W' :=
  ⟨h.wk.cz c hb, h.fi, c _ _ _ _ h.kbx, c _ _ _ _ h.obx, h.vr.cz c, h.len, fun i hi => ⟨(h.row i hi).1.cz c, (h.row i hi).2⟩, h.is.cz c, h.ap, h.glM, hb0, h.few, h.ltn, h.gln, ⟨c _ _ _ _ h.bs.1, h.bs.2⟩, h.obM, h.mM, Nat.le_trans h.mW hs, h.ok⟩
/-- Between two rounds. -/
def Gi (w0 : World) (S b gl cl ge ce n : Nat) (nx tx : Nat → List Nat) (kb ob Bs : Nat) (ov : Value) (O1 : List Nat) (M N Z : Nat) (pre : List { x : Nat // x < Z }) (W : World) : Prop :=
  ∃ (W0 : World) (LF : Nat → List Nat) (En : Nat → Bool) (wv : Value) (O : List Nat) (G : List (List Nat)) (outv : Value) (gs : List Value), W0.heap.size = S ∧ G2 w0 W0 b gl cl ge ce n nx tx kb ob Bs ov O1 M N (pre.map (·.1)) LF En wv O G outv gs W
theorem gi_own {S Z B0 : Nat} (h1 : w0.heap.size ≤ B0) (h2 : S ≤ B0) : OwnFrom B0 (Gi w0 S b gl cl ge ce n nx tx kb ob Bs ov O1 M N Z) := fun pre W W' row hs hg hr => by
  obtain ⟨W0, LF, En, wv, O, G, outv, gs, hS, h⟩ := hs
  refine ⟨W0, LF, En, wv, O, G, outv, gs, hS, h.cz (cz_own hg hr) (h.wk.low.grown hg h.wk.low.size (fun k hk => ?_)) (h.low.grown hg h.low.size (fun k hk => Nat.le_trans h1 (hr k hk).1)) hg.size⟩
  rw [hS]
  exact Nat.le_trans h2 (hr k hk).1
end
end Go.Proofs.Ytjgepcifknmdhaa
