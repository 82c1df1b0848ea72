/- Texts of this claim, put together in their order. -/
import Derived.Test.YtjgepcifknmdhaaBase1
import Derived.Test.YtjgepcifknmdhaaBase2
import Derived.Test.YtjgepcifknmdhaaBase3
/- turned. -/
namespace Go.Proofs.Ytjgepcifknmdhaa
open Go.RowKit

/-- All places below t, and of t's next ones the first k, are turned. -/
def Tn (nx R : Nat → List Nat) (t k : Nat) : Prop := (∀ x q, x ∈ R q ↔ (x < t ∧ q ∈ nx x) ∨ (x = t ∧ q ∈ (nx t).take k)) ∧ ∃ m, m = 300 ∧ ∀ q, (R q).length ≤ t * m + k
theorem tn_zero (nx : Nat → List Nat) : Tn nx (fun _ => []) 0 0 := by
  refine ⟨fun x q => ?_, 300, rfl, fun q => Nat.zero_le _⟩
  constructor
  · intro h; cases h
  · rintro (⟨h, _⟩ | ⟨_, h⟩)
    · omega
    · cases h
theorem tn_row {nx R : Nat → List Nat} {t k : Nat} (h : Tn nx R t k) (hk : k = (nx t).length) (h3 : (nx t).length ≤ 300) : Tn nx R (t + 1) 0 := by
  obtain ⟨h1, m, hm, hl⟩ := h
  refine ⟨fun x q => ?_, m, hm, fun q => ?_⟩
  · rw [h1, hk, List.take_length]
    constructor
    · rintro (⟨h1, h2⟩ | ⟨rfl, h2⟩)
      · exact .inl ⟨by omega, h2⟩
      · exact .inl ⟨by omega, h2⟩
    · rintro (⟨h1, h2⟩ | ⟨_, h2⟩)
      · by_cases e : x = t
        · subst e; exact .inr ⟨rfl, h2⟩
        · exact .inl ⟨by omega, h2⟩
      · simp at h2
  · have h5 := hl q
    rw [Nat.add_mul]
    omega
theorem tn_step {nx R : Nat → List Nat} {t k : Nat} (h : Tn nx R t k) (hk : k < (nx t).length) : Tn nx (upd R ((nx t).getD k 0) (R ((nx t).getD k 0) ++ [t])) t (k + 1) := by
  obtain ⟨h1, m, hm, hl⟩ := h
  have e : (nx t).getD k 0 = (nx t)[k] := by simp [List.getD, hk]
  refine ⟨fun x q => ?_, m, hm, fun q => ?_⟩
  · rw [List.take_succ_eq_append_getElem hk, ← e]
    by_cases hq : q = (nx t).getD k 0
    · rw [hq, upd_same, List.mem_append, h1, List.mem_singleton]
      constructor
      · rintro ((h1 | ⟨h1, h2⟩) | h1)
        · exact .inl h1
        · exact .inr ⟨h1, List.mem_append_left _ h2⟩
        · exact .inr ⟨h1, by simp⟩
      · rintro (h1 | ⟨h1, _⟩)
        · exact .inl (.inl h1)
        · exact .inr h1
    · rw [upd_other _ _ hq, h1, List.mem_append, List.mem_singleton]
      constructor
      · rintro (h1 | ⟨h1, h2⟩)
        · exact .inl h1
        · exact .inr ⟨h1, .inl h2⟩
      · rintro (h1 | ⟨h1, h2 | h2⟩)
        · exact .inl h1
        · exact .inr ⟨h1, h2⟩
        · exact absurd h2 hq
  · by_cases hq : q = (nx t).getD k 0
    · rw [hq, upd_same, List.length_append, List.length_singleton]
      have := hl ((nx t).getD k 0)
      omega
    · rw [upd_other _ _ hq]
      have := hl q; omega
theorem at_mem_nat {l : List Nat} {i : Nat} (h : i < l.length) : l.getD i 0 ∈ l := by
  rw [show l.getD i 0 = l[i] by simp [List.getD, h]]
  exact List.getElem_mem h
set_option maxRecDepth 100000 in
set_option maxHeartbeats 4000000 in
theorem turned_any (w : World) {v1 v2 : Value} {N : List Int} {nx : Nat → List Nat} (hN : Rd w v1 N) (h : Rws w v2 N.length nx) (hn9 : N.length ≤ 700) (hb : ∀ p, p < N.length → ∀ q ∈ nx p, q < N.length) (h3 : ∀ p, (nx p).length ≤ 300) :
    Calls Try.prog 77 #[.agg #[v1, v2]] w fun e w' => ∃ v3 tx, e = .returned (.agg #[v1, v3]) ∧ Rws w' v3 N.length tx ∧ (∀ x q, x ∈ tx q ↔ x < N.length ∧ q ∈ nx x) ∧ (∀ q, (tx q).length < 1000000) ∧ Below w.heap.size w w' := by
  obtain ⟨n, hn⟩ : ∃ n, n = N.length := ⟨_, rfl⟩
  rw [← hn] at h hn9 hb ⊢
  obtain ⟨W1, hW1⟩ : ∃ W1, W1 = (w.alloc (.cells #[v1, v2] 53)).alloc (.cells #[.slice none 0 0, .slice none 0 0] 53) := ⟨_, rfl⟩
  have b1 : Below w.heap.size w W1 := by rw [hW1]; exact below_add (below_new w _) _
  have o1 : W1.heap[w.heap.size]? = some (.cells #[v1, v2] 53 (0, 0)) := by
    rw [hW1]
    exact ((below_new _ _).block _ (by simp)).trans (heap_alloc_new w _)
  have p1 : W1.heap[w.heap.size + 1]? = some (.cells #[.slice none 0 0, .slice none 0 0] 53 (0, 0)) := by
    rw [hW1]
    have := heap_alloc_new (w.alloc (.cells #[v1, v2] 53)) (.cells #[.slice none 0 0, .slice none 0 0] 53)
    rw [World.size_alloc] at this
    exact this
  have N1 := hN.next b1
  have R1 := hide (h.next b1)
  obtain ⟨a1, c1, e1, s1⟩ := N1
  rw [← hn] at e1
  subst e1
  obtain ⟨G2, cap2, hv2⟩ := h.form
  subst hv2
  clear hN h s1
  have k0 : W1.cell? ⟨w.heap.size, 0, none⟩ = some (.slice a1 n c1) := by simp [World.cell?, o1]
  have k1 : W1.cell? ⟨w.heap.size, 1, none⟩ = some (.slice (some ⟨G2, 0, none⟩) n cap2) := by simp [World.cell?, o1]
  have hmk := make46 n (by omega) W1
  obtain ⟨G, hG⟩ : ∃ G, G = W1.heap.size := ⟨_, rfl⟩
  obtain ⟨W3, hW3⟩ : ∃ W3, W3 = W1.alloc (.cells (madeCells #[.slice none 0 0] n) 23) := ⟨_, rfl⟩
  have V3 := hide (show Wv W1.heap.size G n (fun _ => []) (fun _ => .slice none 0 0) W3 by rw [hW3, hG]; exact wv_made _ n W1 (Nat.le_refl _))
  have b3 : Below W1.heap.size W1 W3 := by rw [hW3]; exact below_new W1 _
  rw [← hW3, ← hG] at hmk
  have o3 := (b3.block _ (heap_lt o1)).trans o1
  have k3 : W3.cell? ⟨w.heap.size, 1, none⟩ = some (.slice (some ⟨G2, 0, none⟩) n cap2) := by simp [World.cell?, o3]
  rw [hW1] at k0 k1 hmk
  replace o1 := hide o1
  replace p1 := hide p1
  replace o3 := hide o3
  replace b1 := hide b1
  replace b3 := hide b3
  replace hG := hide hG
  replace hW3 := hide hW3
  replace hn := hide hn
  replace hb := hide hb
  replace h3 := hide h3
  go_enter Try.func77, Try.ntmps77
  go_wp2
  clear k0 k1 hmk
  go_loopw [15] (fun s15 wr => ∃ (t : Nat) (R : Nat → List Nat) (xs : Nat → Value), t ≤ n ∧ s15 = .int .i64 t ∧ Hid (Wv W1.heap.size G n R xs wr) ∧ Hid (Below W1.heap.size W1 wr) ∧ Hid (Tn nx R t 0)) (fun s15 _ => n - (intOf s15).toNat)
  case atStart => exact ⟨0, _, _, Nat.zero_le _, rfl, unhide V3, unhide b3, tn_zero nx⟩
  case round =>
    obtain ⟨t, R, xs, ht, rfl, V6, b8, T6⟩ := hrel
    by_cases hlt : t < n
    · obtain ⟨x, d0, r1⟩ := (unhide R1).at hlt
      obtain ⟨ax, cx, rfl, sx, _⟩ := r1
      obtain ⟨m, hm⟩ : ∃ m, m = (nx t).length := ⟨_, rfl⟩
      rw [ci_len, ← hm] at d0
      have hm9 : m ≤ 300 := by rw [hm]; exact unhide h3 t
      have d1 := ((unhide b8).cell (p := ⟨G2, t, none⟩) (World.block_lt_of_cell? _ _ d0)).trans d0
      replace sx := hide sx
      replace hm := hide hm
      clear d0
      go_wp2
      go_loopw [22] (fun s22 wq => ∃ (k : Nat) (R : Nat → List Nat) (xs : Nat → Value) (wz : World), k ≤ m ∧ s22 = .int .i64 k ∧ wz = wq ∧ Hid (Wv W1.heap.size G n R xs wz) ∧ Hid (Below W1.heap.size W1 wz) ∧ Hid (Tn nx R t k)) (fun s22 _ => m - (intOf s22).toNat)
      case atStart => exact ⟨0, R, xs, _, Nat.zero_le _, rfl, rfl, unhide V6, unhide b8, unhide T6⟩
      case round =>
        obtain ⟨k, R, xs, wq, hk, rfl, hwz, V7, b9, T7⟩ := hrel
        subst hwz
        by_cases hkm : k < m
        · obtain ⟨j, hj⟩ : ∃ j, j = (nx t).getD k 0 := ⟨_, rfl⟩
          have hkl : k < (nx t).length := by rw [← unhide hm]; exact hkm
          have hjn : j < n := by rw [hj]; exact unhide hb t hlt _ (at_mem_nat hkl)
          obtain ⟨gx, ox, rfl, d2⟩ := seg_at (unhide sx) (i := k) (by rw [ci_len]; exact hkl)
          rw [ci_at, ← hj] at d2
          have d3 := ((unhide b9).cell (p := ⟨gx, ox + k, none⟩) (World.block_lt_of_cell? _ _ d2)).trans d2
          obtain ⟨m1, m2⟩ := (unhide V7).at_ hjn
          have row7 := hide ((unhide V7).row j hjn)
          obtain ⟨z, hz⟩ : ∃ z, z = (ci (R j)).length := ⟨_, rfl⟩
          have hz9 : z < 10000000 := by
            obtain ⟨_, m9, rfl, hl9⟩ := unhide T7
            have := hl9 j
            rw [hz, ci_len]; omega
          replace hz := hide hz
          have stp := hide (tn_step (unhide T7) hkl)
          rw [← hj] at stp
          obtain ⟨u, hxu⟩ : ∃ u, u = xs j := ⟨_, rfl⟩
          rw [← hxu] at m1 row7
          replace hxu := hide hxu
          replace hj := hide hj
          have key : Hid (∀ g cap w', Is W1.heap.size (.slice (some ⟨g, 0, none⟩) (z + 1) cap) (ci (R j) ++ [(t : Int)]) w' → wq.grownBy w' u.ownBlock → (u.ownBlock = some g ∨ g = wq.heap.size + 1) →
              Wv W1.heap.size G n (upd R j (R j ++ [t])) (upd xs j (.slice (some ⟨g, 0, none⟩) (z + 1) cap)) (w'.setCell ⟨G, j, none⟩ (.slice (some ⟨g, 0, none⟩) (z + 1) cap)) ∧ w'.cell? ⟨G, j, none⟩ = some u ∧ w'.frozen? ⟨G, j, none⟩ = false ∧ Below W1.heap.size W1 (w'.setCell ⟨G, j, none⟩ (.slice (some ⟨g, 0, none⟩) (z + 1) cap))) := by
            intro g cap w' q1 q2 q3
            obtain ⟨p1, p2, p3⟩ := (unhide V7).push (H := wq.heap.size + 1) (l' := R j ++ [t]) hjn (by rw [ci_app]; exact q1) (by rw [← unhide hxu]; exact q2) (g := g) rfl (by rw [← unhide hxu]; exact q3) (by omega)
            exact ⟨p1, by rw [unhide hxu]; exact p2, p3, ((unhide b9).grown q2 (unhide b9).size (fun k hk => ((unhide row7).lt k hk).1)).setCell (p := ⟨G, j, none⟩) (unhide V7).bB _⟩
          have hbs : Hid (W1.heap.size ≤ wq.heap.size) := (unhide b9).size
          clear d2 hkl
          go_wp2_with (at_builtin; refine wpList_pushL _ rfl (.tmp 31) (.tmp 33) rfl W1.heap.size u z _ (t : Int) _ rfl rfl rfl (unhide hz).symm (unhide row7) (unhide hbs) hz9 ?_; intro g5 cap5 w10 a1 a2 a3; obtain ⟨f1, f2, f3, f4⟩ := unhide key g5 cap5 w10 a1 a2 a3; replace a1 := hide a1; replace a2 := hide a2; replace a3 := hide a3; replace f1 := hide f1; replace f4 := hide f4)
          go_roundw
          case rel => exact ⟨k + 1, _, _, _, by omega, by go_num, rfl, unhide f1, unhide f4, unhide stp⟩
          case measure => simp [intOf]; omega
        · obtain rfl : k = m := by omega
          have T8 := hide (tn_row (unhide T7) (unhide hm) (unhide h3 t))
          go_wp2
          go_roundw
          case rel => exact ⟨t + 1, _, _, by omega, by go_num, unhide V7, unhide b9, unhide T8⟩
          case measure => simp [intOf]; omega
    · obtain rfl : t = n := by omega
      have oP := ((unhide b8).block _ (heap_lt (unhide p1))).trans (unhide p1)
      have oQ := ((unhide b8).block _ (heap_lt (unhide o1))).trans (unhide o1)
      have c0 : wr.cell? ⟨w.heap.size, 0, none⟩ = some (.slice a1 t c1) := by simp [World.cell?, oQ]
      have e0 : wr.cell? ⟨w.heap.size + 1, 0, none⟩ = some (.slice none 0 0) := by simp [World.cell?, oP]
      have e1 : wr.cell? ⟨w.heap.size + 1, 1, none⟩ = some (.slice none 0 0) := by simp [World.cell?, oP]
      have z0 : wr.frozen? ⟨w.heap.size + 1, 0, none⟩ = false := by simp [World.frozen?, oP]
      have z1 : wr.frozen? ⟨w.heap.size + 1, 1, none⟩ = false := by simp [World.frozen?, oP]
      replace oP := hide oP
      replace oQ := hide oQ
      go_wp2
      have hP := unhide oP
      have q1 := heap_set_one (.slice a1 t c1) hP
      have bP : Below w.heap.size w wr := (unhide b1).trans ((unhide b8).mono (unhide b1).size)
      refine bodyPost_ret (v := .agg #[.slice a1 t c1, .slice (some ⟨G, 0, none⟩) t t]) (results_cell_row rfl _ _ (w.heap.size + 1) 53 #[.slice a1 t c1, .slice (some ⟨G, 0, none⟩) t t] (0, 0) _ rfl (heap_set_two _ _ hP) Try.underlying53 rfl (by kernel_rfl)) rfl ?_
      have V9 := ((unhide V6).off hP (by decide) (by decide) 0 (.slice a1 t c1)).off q1 (by decide) (by decide) 1 (.slice (some ⟨G, 0, none⟩) t t)
      refine ⟨_, R, rfl, V9.rows (by omega), fun x q => ?_, fun q => ?_, (bP.setCell (p := ⟨w.heap.size + 1, 0, none⟩) (Nat.le_succ _) _).setCell (p := ⟨w.heap.size + 1, 1, none⟩) (Nat.le_succ _) _⟩
      · rw [(unhide T6).1]
        simp
      · obtain ⟨_, m9, rfl, hl9⟩ := unhide T6
        have := hl9 q
        omega
end Go.Proofs.Ytjgepcifknmdhaa

/- A walk in memory; enter, try, leave. -/
namespace Go.Proofs.Ytjgepcifknmdhaa
open Go.RowKit

theorem size_set (w : World) (a : Addr) (v : Value) : (w.setCell a v).heap.size = w.heap.size := by simp [World.setCell]
/-- The walk in block b, made behind W0: what is left (block gl), who was entered (block ge), the way (the slice wv). -/
structure Wk (W0 : World) (b gl cl ge ce n : Nat) (LF : Nat → List Nat) (En : Nat → Bool) (P : List Nat) (wv : Value) (w : World) : Prop where
  low : Below W0.heap.size W0 w
  blk : w.heap[b]? = some (.cells #[.slice (some ⟨gl, 0, none⟩) n cl, .slice (some ⟨ge, 0, none⟩) n ce, wv] 77 (0, 0))
  lft : ∃ cur, w.heap[gl]? = some (.cells cur 23 (0, 0)) ∧ ∀ i, i < n → ∃ x, cur[i]? = some x ∧ Rc W0 x (ci (LF i))
  ent : ∃ cur, w.heap[ge]? = some (.cells cur 4 (0, 0)) ∧ ∀ i, i < n → cur[i]? = some (.bool (En i))
  way : Is W0.heap.size wv (ci P) w
  b0 : W0.heap.size ≤ b
  l0 : W0.heap.size ≤ gl
  e0 : W0.heap.size ≤ ge
/-- Only the walk's own blocks are turned; the way lies where it lay, or in new memory. -/
structure Tw (b gl ge : Nat) (wv wv' : Value) (w w' : World) : Prop where
  os : w'.os = w.os
  tape : w'.tape = w.tape
  output : w'.output = w.output
  size : w.heap.size ≤ w'.heap.size
  block : ∀ k, k < w.heap.size → k ≠ b → k ≠ gl → k ≠ ge → wv.ownBlock ≠ some k → w'.heap[k]? = w.heap[k]?
  at_ : ∀ k, wv'.ownBlock = some k → wv.ownBlock = some k ∨ w.heap.size ≤ k
namespace Tw
variable {b gl ge : Nat} {wv wv' wv'' : Value} {w w' w'' : World}
theorem of_below (h : Below w.heap.size w w') : Tw b gl ge wv wv w w' := ⟨h.os, h.tape, h.output, h.size, fun k hk _ _ _ _ => h.block k hk, fun _ h => .inl h⟩
theorem trans (h : Tw b gl ge wv wv' w w') (k : Tw b gl ge wv' wv'' w' w'') : Tw b gl ge wv wv'' w w'' :=
  ⟨k.os.trans h.os, k.tape.trans h.tape, k.output.trans h.output, Nat.le_trans h.size k.size,
   fun i hi h1 h2 h3 h4 => (k.block i (Nat.lt_of_lt_of_le hi h.size) h1 h2 h3 (fun e => by rcases h.at_ i e with h5 | h5; exact h4 h5; omega)).trans (h.block i hi h1 h2 h3 h4),
   fun i e => by
    rcases k.at_ i e with h1 | h1
    · exact h.at_ i h1
    · exact .inr (Nat.le_trans h.size h1)⟩
theorem below (h : Tw b gl ge wv wv' w w') {M : Nat} (h1 : M ≤ b) (h2 : M ≤ gl) (h3 : M ≤ ge) (h4 : ∀ k, wv.ownBlock = some k → M ≤ k) (hM : M ≤ w.heap.size) : Below M w w' := by
  refine ⟨h.os, h.tape, h.output, h.size, fun k hk => h.block k (by omega) (by omega) (by omega) (by omega) (fun e => ?_)⟩
  have := h4 k e
  omega
end Tw
namespace Wk
variable {W0 : World} {b gl cl ge ce n : Nat} {LF : Nat → List Nat} {En : Nat → Bool} {P : List Nat} {wv : Value} {w w' : World}
theorem next (h : Wk W0 b gl cl ge ce n LF En P wv w) (k : Below w.heap.size w w') : Wk W0 b gl cl ge ce n LF En P wv w' := by
  obtain ⟨c1, h1, h2⟩ := h.lft
  obtain ⟨c3, h3, h4⟩ := h.ent
  exact ⟨h.low.trans (k.mono h.low.size), (k.block _ (heap_lt h.blk)).trans h.blk, ⟨c1, (k.block _ (heap_lt h1)).trans h1, h2⟩, ⟨c3, (k.block _ (heap_lt h3)).trans h3, h4⟩, h.way.next k, h.b0, h.l0, h.e0⟩
theorem drewN (h : Wk W0 b gl cl ge ce n LF En P wv w) (m : Nat) : Wk W0 b gl cl ge ce n LF En P wv (w.drewN m) := h.next ⟨rfl, rfl, rfl, Nat.le_refl _, fun _ _ => rfl⟩
theorem below (h : Wk W0 b gl cl ge ce n LF En P wv w) {wv' : Value} (t : Tw b gl ge wv wv' w w') : Below W0.heap.size w w' := t.below h.b0 h.l0 h.e0 (fun k e => (h.way.lt k e).1) h.low.size
theorem c0 (h : Wk W0 b gl cl ge ce n LF En P wv w) : w.cell? ⟨b, 0, none⟩ = some (.slice (some ⟨gl, 0, none⟩) n cl) := by have := h.blk; simp [World.cell?, this]
theorem c1 (h : Wk W0 b gl cl ge ce n LF En P wv w) : w.cell? ⟨b, 1, none⟩ = some (.slice (some ⟨ge, 0, none⟩) n ce) := by have := h.blk; simp [World.cell?, this]
theorem c2 (h : Wk W0 b gl cl ge ce n LF En P wv w) : w.cell? ⟨b, 2, none⟩ = some wv := by have := h.blk; simp [World.cell?, this]
theorem z (h : Wk W0 b gl cl ge ce n LF En P wv w) (j : Nat) : w.frozen? ⟨b, j, none⟩ = false := by have := h.blk; simp [World.frozen?, this]
theorem le (h : Wk W0 b gl cl ge ce n LF En P wv w) {i : Nat} (hi : i < n) : ∃ x, w.cell? ⟨gl, i, none⟩ = some x ∧ w.frozen? ⟨gl, i, none⟩ = false ∧ Rc W0 x (ci (LF i)) := by
  obtain ⟨cur, h1, h2⟩ := h.lft
  obtain ⟨x, h3, h4⟩ := h2 i hi
  exact ⟨x, by simp [World.cell?, h1, h3], by simp [World.frozen?, h1], h4⟩
theorem en (h : Wk W0 b gl cl ge ce n LF En P wv w) {i : Nat} (hi : i < n) : w.cell? ⟨ge, i, none⟩ = some (.bool (En i)) ∧ w.frozen? ⟨ge, i, none⟩ = false := by
  obtain ⟨cur, h1, h2⟩ := h.ent
  exact ⟨by simp [World.cell?, h1, h2 i hi], by simp [World.frozen?, h1]⟩
/-- One is entered. -/
theorem setE (h : Wk W0 b gl cl ge ce n LF En P wv w) (p : Nat) : Wk W0 b gl cl ge ce n LF (upd En p true) P wv (w.setCell ⟨ge, p, none⟩ (.bool true)) ∧ Tw b gl ge wv wv w (w.setCell ⟨ge, p, none⟩ (.bool true)) := by
  obtain ⟨c1, h1, h2⟩ := h.lft
  obtain ⟨c3, h3, h4⟩ := h.ent
  have nb : b ≠ ge := fun e => by have := h.blk; rw [e, h3] at this; cases this
  have nl : gl ≠ ge := fun e => by rw [e, h3] at h1; cases h1
  have hset : (w.setCell ⟨ge, p, none⟩ (.bool true)).heap[ge]? = some (.cells (c3.set! p (.bool true)) 4 (0, 0)) := by
    show (w.heap.modify ge _)[ge]? = _
    rw [Array.getElem?_modify, if_pos rfl, h3]; rfl
  refine ⟨⟨h.low.setCell (p := ⟨ge, p, none⟩) h.e0 _, (heap_set_other _ _ nb).trans h.blk, ⟨c1, (heap_set_other _ _ nl).trans h1, h2⟩, ⟨_, hset, fun i hi => ?_⟩, h.way.keep fun k hk => heap_set_other _ _ (fun e => ?_), h.b0, h.l0, h.e0⟩,
    ⟨rfl, rfl, rfl, by simp [World.setCell], fun k hk _ _ k3 _ => heap_set_other _ _ k3, fun k e => .inl e⟩⟩
  · by_cases e : i = p
    · subst e
      have := h4 i hi
      have hlt : i < c3.size := (Array.getElem?_eq_some_iff.1 this).1
      rw [upd_same]
      simp [hlt]
    · rw [upd_other _ _ e, ← h4 i hi]
      simp [Ne.symm e]
  · obtain ⟨c, hc⟩ := h.way.ty k hk
    rw [e, h3] at hc; cases hc
/-- One is tried. -/
theorem setL (h : Wk W0 b gl cl ge ce n LF En P wv w) (p : Nat) {x : Value} {l : List Nat} (hx : Rc W0 x (ci l)) : Wk W0 b gl cl ge ce n (upd LF p l) En P wv (w.setCell ⟨gl, p, none⟩ x) ∧ Tw b gl ge wv wv w (w.setCell ⟨gl, p, none⟩ x) := by
  obtain ⟨c1, h1, h2⟩ := h.lft
  obtain ⟨c3, h3, h4⟩ := h.ent
  have nb : b ≠ gl := fun e => by have := h.blk; rw [e, h1] at this; cases this
  have nl : ge ≠ gl := fun e => by rw [e, h1] at h3; cases h3
  have hset : (w.setCell ⟨gl, p, none⟩ x).heap[gl]? = some (.cells (c1.set! p x) 23 (0, 0)) := by
    show (w.heap.modify gl _)[gl]? = _
    rw [Array.getElem?_modify, if_pos rfl, h1]; rfl
  refine ⟨⟨h.low.setCell (p := ⟨gl, p, none⟩) h.l0 _, (heap_set_other _ _ nb).trans h.blk, ⟨_, hset, fun i hi => ?_⟩, ⟨c3, (heap_set_other _ _ nl).trans h3, h4⟩, h.way.keep fun k hk => heap_set_other _ _ (fun e => ?_), h.b0, h.l0, h.e0⟩,
    ⟨rfl, rfl, rfl, by simp [World.setCell], fun k hk _ k2 _ _ => heap_set_other _ _ k2, fun k e => .inl e⟩⟩
  · by_cases e : i = p
    · subst e
      obtain ⟨y, this, _⟩ := h2 i hi
      have hlt : i < c1.size := (Array.getElem?_eq_some_iff.1 this).1
      exact ⟨x, by simp [hlt], by rw [upd_same]; exact hx⟩
    · obtain ⟨y, k1, k2⟩ := h2 i hi
      exact ⟨y, by rw [← k1]; simp [Ne.symm e], by rw [upd_other _ _ e]; exact k2⟩
  · obtain ⟨c, hc⟩ := h.way.ty k hk
    rw [e, h1] at hc; cases hc
/-- Another way: its row was turned, or lies in new memory; then the walk's own block. -/
theorem setP (h : Wk W0 b gl cl ge ce n LF En P wv w) {P' : List Nat} {wv' : Value} (hw : Is W0.heap.size wv' (ci P') w') (hg : w.grownBy w' wv.ownBlock) (ha : ∀ k, wv'.ownBlock = some k → wv.ownBlock = some k ∨ w.heap.size ≤ k) :
    Wk W0 b gl cl ge ce n LF En P' wv' (w'.setCell ⟨b, 2, none⟩ wv') ∧ Tw b gl ge wv wv' w (w'.setCell ⟨b, 2, none⟩ wv') ∧ w'.cell? ⟨b, 2, none⟩ = some wv ∧ w'.frozen? ⟨b, 2, none⟩ = false := by
  obtain ⟨c1, h1, h2⟩ := h.lft
  obtain ⟨c3, h3, h4⟩ := h.ent
  have keepT : ∀ (k : Nat) (cur : Array Value) (t : TypeId), w.heap[k]? = some (.cells cur t (0, 0)) → t ≠ 3 → w'.heap[k]? = some (.cells cur t (0, 0)) := fun k cur t hk ht => (hg.block k (heap_lt hk) (fun e => by
    obtain ⟨c, hc⟩ := h.way.ty k e.symm
    rw [hk] at hc; cases hc; exact ht rfl)).trans hk
  have b1 := keepT _ _ _ h.blk (by decide)
  have l1 := keepT _ _ _ h1 (by decide)
  have e1 := keepT _ _ _ h3 (by decide)
  have nl : gl ≠ b := fun e => by rw [e, b1] at l1; cases l1
  have ne : ge ≠ b := fun e => by rw [e, b1] at e1; cases e1
  have hlow : Below W0.heap.size W0 w' := h.low.grown hg h.low.size (fun k hk => (h.way.lt k hk).1)
  have hset : (w'.setCell ⟨b, 2, none⟩ wv').heap[b]? = some (.cells #[.slice (some ⟨gl, 0, none⟩) n cl, .slice (some ⟨ge, 0, none⟩) n ce, wv'] 77 (0, 0)) := by
    show (w'.heap.modify b _)[b]? = _
    rw [Array.getElem?_modify, if_pos rfl, b1]; rfl
  refine ⟨⟨hlow.setCell (p := ⟨b, 2, none⟩) h.b0 _, hset, ⟨c1, (heap_set_other _ _ nl).trans l1, h2⟩, ⟨c3, (heap_set_other _ _ ne).trans e1, h4⟩, hw.keep fun k hk => heap_set_other _ _ (fun e => ?_), h.b0, h.l0, h.e0⟩,
    ⟨hg.os, hg.tape, hg.output, by simpa [World.setCell] using hg.size, fun k hk k1 _ _ k4 => (heap_set_other _ _ k1).trans (hg.block k hk (fun e => k4 e.symm)), ha⟩, by simp [World.cell?, b1], by simp [World.frozen?, b1]⟩
  obtain ⟨c, hc⟩ := hw.ty k hk
  rw [e, b1] at hc; cases hc
end Wk
variable {W0 : World} {b gl cl ge ce n : Nat} {LF : Nat → List Nat} {En : Nat → Bool} {P : List Nat} {wv : Value}
set_option maxRecDepth 100000 in
theorem enter_old (w : World) (h : Wk W0 b gl cl ge ce n LF En P wv w) {p : Nat} (hp : p < n) (hE : En p = true) :
    Calls Try.prog 59 #[.pointer (some ⟨b, 0, none⟩), .int .i64 p] w fun e w' => e = .returned (.tuple #[]) ∧ w' = w := by
  have c1 := h.c1
  have c3 := (h.en hp).1
  rw [hE] at c3
  clear h
  go_enter Try.func59, Try.ntmps59
  go_wp2
  go_end0
  exact ⟨rfl, rfl⟩
set_option maxRecDepth 100000 in
set_option maxHeartbeats 1000000 in
theorem enter_new (w : World) (h : Wk W0 b gl cl ge ce n LF En P wv w) {p : Nat} (hp : p < n) (hE : En p = false) (hP : P.length < 1000000) :
    Calls Try.prog 59 #[.pointer (some ⟨b, 0, none⟩), .int .i64 p] w fun e w' => ∃ wv', e = .returned (.tuple #[]) ∧ Wk W0 b gl cl ge ce n LF (upd En p true) (P ++ [p]) wv' w' ∧ Tw b gl ge wv wv' w w' := by
  have c1 := h.c1
  obtain ⟨c3, z3⟩ := h.en hp
  rw [hE] at c3
  obtain ⟨h2, t2⟩ := h.setE p
  have c4 := h2.c2
  obtain ⟨m, hm⟩ : ∃ m, m = (ci P).length := ⟨_, rfl⟩
  have hm9 : m < 10000000 := by rw [hm, ci_len]; omega
  have I2 := hide h2.way
  have key : Hid (∀ g cap w', Is W0.heap.size (.slice (some ⟨g, 0, none⟩) (m + 1) cap) (ci P ++ [(p : Int)]) w' → (w.setCell ⟨ge, p, none⟩ (.bool true)).grownBy w' wv.ownBlock → (wv.ownBlock = some g ∨ g = w.heap.size + 1) →
      (Wk W0 b gl cl ge ce n LF (upd En p true) (P ++ [p]) (.slice (some ⟨g, 0, none⟩) (m + 1) cap) (w'.setCell ⟨b, 2, none⟩ (.slice (some ⟨g, 0, none⟩) (m + 1) cap)) ∧ Tw b gl ge wv (.slice (some ⟨g, 0, none⟩) (m + 1) cap) w (w'.setCell ⟨b, 2, none⟩ (.slice (some ⟨g, 0, none⟩) (m + 1) cap))) ∧ w'.cell? ⟨b, 2, none⟩ = some wv ∧ w'.frozen? ⟨b, 2, none⟩ = false) := by
    intro g cap w' q1 q2 q3
    obtain ⟨p1, p2, p3, p4⟩ := h2.setP (P' := P ++ [p]) (by rw [ci_app]; exact q1) q2 (fun k e => by
      have e2 : g = k := by simpa [Value.ownBlock] using e
      subst e2
      rcases q3 with q3 | q3
      · exact .inl q3
      · exact .inr (by rw [size_set]; omega))
    exact ⟨⟨p1, t2.trans p2⟩, p3, p4⟩
  have hbs : Hid (W0.heap.size ≤ (w.setCell ⟨ge, p, none⟩ (.bool true)).heap.size) := h2.low.size
  replace hm := hide hm
  clear h h2 t2
  go_enter Try.func59, Try.ntmps59
  go_wp2_with (at_builtin; refine wpList_pushL _ rfl (.tmp 22) (.tmp 24) rfl W0.heap.size wv m _ (p : Int) _ rfl rfl (size_set _ _ _) (unhide hm).symm (unhide I2) (unhide hbs) hm9 ?_; intro g5 cap5 w10 a1 a2 a3; obtain ⟨f1, f2, f3⟩ := unhide key g5 cap5 w10 a1 a2 a3; replace a1 := hide a1; replace a2 := hide a2; replace a3 := hide a3; replace f1 := hide f1)
  go_end0
  exact ⟨_, rfl, unhide f1⟩
end Go.Proofs.Ytjgepcifknmdhaa

/- try, leave. -/
namespace Go.Proofs.Ytjgepcifknmdhaa
open Go.RowKit
variable {W0 : World} {b gl cl ge ce n : Nat} {LF : Nat → List Nat} {En : Nat → Bool} {P : List Nat} {wv : Value}

/-- A row of its own, seen from its head alone. -/
theorem Is.cut {B g m cap k : Nat} {l : List Int} {w : World} (h : Is B (.slice (some ⟨g, 0, none⟩) m cap) l w) (hk : k ≤ l.length) : Is B (.slice (some ⟨g, 0, none⟩) k cap) (l.take k) w := by
  have hl : (l.take k).length = k := by rw [List.length_take]; omega
  rcases h.2 with ⟨e, _⟩ | ⟨g2, c2, cur, e, h1, h2, h3, h4, h5, h6⟩
  · cases e
  · injection e with e1 e2 e3
    injection e1 with e1
    injection e1 with e1
    subst e1 e3
    refine ⟨by simp [vals], .inr ⟨g, cap, cur, by rw [hl], h1, h2, by omega, h4, h5, ?_⟩⟩
    have h7 : cur.toList.take (l.length * 1) = vals l := h6
    rw [hl]
    have h8 : vals (l.take k) = (vals l).take k := by unfold vals; rw [List.map_take]
    rw [h8, ← h7, List.take_take]
    congr 1
    omega
theorem is_some {B : Nat} {v : Value} {l : List Int} {w : World} (h : Is B v l w) (hl : 0 < l.length) : ∃ g cap, v = .slice (some ⟨g, 0, none⟩) l.length cap ∧ l.length ≤ cap ∧ cap ≤ maxLen ∧ ∀ i, i < l.length → w.cell? ⟨g, i, none⟩ = some (.int .i64 (l.getD i 0)) := by
  rcases h.2 with ⟨_, e⟩ | ⟨g2, c2, cur, e, h1, h2, h3, h4, h5, h6⟩
  · omega
  · refine ⟨g2, c2, e, h3, h4, fun i hi => ?_⟩
    subst e
    obtain ⟨g, o, e1, e2, _⟩ := h.elem' hi
    obtain ⟨a, cp, e3, s⟩ := h.rd
    injection e3 with e4 _ e5
    subst e4 e5
    rcases s.2 with s | ⟨b, off, e6, s⟩
    · omega
    · injection e6 with e6
      injection e6 with e6 e7
      subst e6 e7
      have := s i hi
      rwa [Nat.zero_add] at this
set_option maxRecDepth 100000 in
set_option maxHeartbeats 1000000 in
theorem leave_any (w : World) {q : List Nat} {v : Nat} (h : Wk W0 b gl cl ge ce n LF En (q ++ [v]) wv w) (hq : q.length < 1000000) :
    Calls Try.prog 61 #[.pointer (some ⟨b, 0, none⟩)] w fun e w' => ∃ wv', e = .returned (.int .i64 (v : Int)) ∧ Wk W0 b gl cl ge ce n LF En q wv' w' ∧ Tw b gl ge wv wv' w w' := by
  have hl : (ci (q ++ [v])).length = q.length + 1 := by rw [ci_len]; simp
  obtain ⟨g, cap, rfl, h1, h2, h3⟩ := is_some h.way (by rw [hl]; omega)
  rw [hl] at h h1 ⊢
  have c2 := h.c2
  have z2 := h.z 2
  have d := h3 q.length (by rw [hl]; omega)
  rw [ci_at, show (q ++ [v]).getD q.length 0 = v by simp] at d
  have hw : Is W0.heap.size (.slice (some ⟨g, 0, none⟩) q.length cap) (ci q) w := by
    have := h.way.cut (k := q.length) (by rw [hl]; omega)
    rwa [show (ci (q ++ [v])).take q.length = ci q by rw [ci_app, ← ci_len q, List.take_left]] at this
  have k0 := h.setP (w' := w) hw ⟨rfl, rfl, rfl, Nat.le_refl _, fun _ _ _ => rfl⟩ (fun k e => .inl e)
  have K := hide (And.intro k0.1 k0.2.1)
  obtain ⟨m, hm⟩ : ∃ m, m = q.length := ⟨_, rfl⟩
  rw [← hm] at c2 h1 d K ⊢
  have hm9 : m < 1000000 := by omega
  have hcap : m ≤ cap := by omega
  unfold maxLen at h2
  replace hm := hide hm
  clear h h3 hl hw k0 hq
  go_enter Try.func61, Try.ntmps61
  go_wp2
  go_ret
  exact ⟨_, rfl, unhide K⟩
theorem Rc.tail {w : World} {t : Nat} {r : List Nat} {b off k cap : Nat} (h : Rc w (.slice (some ⟨b, off, none⟩) (k + 1) cap) (ci (t :: r))) (hk : k = r.length) (p : Option Addr) (hp : 0 < k → p = some ⟨b, off + 1, none⟩) (hn : p ≠ none) : Rc w (.slice p k (cap - 1)) (ci r) := by
  obtain ⟨a', cap', e, s, h3, h4, h5⟩ := h
  injection e with e1 e2 e3
  subst e1 e3
  have hl : (ci (t :: r)).length = k + 1 := by rw [ci_len, hk]; rfl
  have hr : (ci r).length = k := by rw [ci_len, hk]
  refine ⟨p, cap - 1, by rw [hr], ⟨rfl, ?_⟩, by omega, by omega, fun e => absurd e hn⟩
  rcases Nat.eq_zero_or_pos k with h0 | h0
  · exact .inl (by omega)
  · refine .inr ⟨b, off + 1, hp h0, fun i hi => ?_⟩
    rcases s.2 with s | ⟨b', off', e6, s⟩
    · omega
    · injection e6 with e6
      injection e6 with e6 e7
      subst e6 e7
      have := s (i + 1) (by omega)
      rw [show off + 1 + i = off + (i + 1) by omega, this]
      simp [ci]
set_option maxRecDepth 100000 in
set_option maxHeartbeats 2000000 in
theorem try_none (w : World) {q : List Nat} {v : Nat} (h : Wk W0 b gl cl ge ce n LF En (q ++ [v]) wv w) (hq : q.length < 1000000) (hv : v < n) (hL : LF v = []) :
    Calls Try.prog 60 #[.pointer (some ⟨b, 0, none⟩)] w fun e w' => e = .returned (.tuple #[.int .i64 0, .bool false]) ∧ Wk W0 b gl cl ge ce n LF En (q ++ [v]) wv w' ∧ Tw b gl ge wv wv w w' := by
  have hl : (ci (q ++ [v])).length = q.length + 1 := by rw [ci_len]; simp
  obtain ⟨g, cap, rfl, h1, h2, h3⟩ := is_some h.way (by rw [hl]; omega)
  rw [hl] at h h1 ⊢
  have c0 := h.c0
  have c2 := h.c2
  have d := h3 q.length (by rw [hl]; omega)
  rw [ci_at, show (q ++ [v]).getD q.length 0 = v by simp] at d
  obtain ⟨x, d2, _, r⟩ := h.le hv
  rw [hL] at r
  obtain ⟨a, c, rfl, _⟩ := r
  have H := hide h
  obtain ⟨m, hm⟩ : ∃ m, m = q.length := ⟨_, rfl⟩
  rw [← hm] at c2 d H ⊢
  have d3 : w.cell? ⟨gl, v, none⟩ = some (.slice a 0 c) := d2
  have hm9 : m < 1000000 := by omega
  have hmi : (m : Int) + 1 - 1 = (m : Int) := by omega
  replace hm := hide hm
  have T := hide (Tw.of_below (b := b) (gl := gl) (ge := ge) (wv := .slice (some ⟨g, 0, none⟩) (m + 1) cap) (w := w) (w' := w.drew) ⟨rfl, rfl, rfl, Nat.le_refl _, fun _ _ => rfl⟩)
  have K := hide ((unhide H).next (w' := w.drew) ⟨rfl, rfl, rfl, Nat.le_refl _, fun _ _ => rfl⟩)
  clear h h3 hl hq h1 h2 d2
  go_enter Try.func60, Try.ntmps60
  go_wp2_with fail
  go_region
  all_goals
    go_wp2
    go_ret2
    exact ⟨rfl, unhide K, unhide T⟩
set_option maxRecDepth 100000 in
set_option maxHeartbeats 2000000 in
theorem try_some (w : World) {q : List Nat} {v : Nat} (h : Wk W0 b gl cl ge ce n LF En (q ++ [v]) wv w) (hq : q.length < 1000000) (hv : v < n) {t : Nat} {r : List Nat} (hL : LF v = t :: r) (hr : r.length < 1000000) :
    Calls Try.prog 60 #[.pointer (some ⟨b, 0, none⟩)] w fun e w' => e = .returned (.tuple #[.int .i64 (t : Int), .bool true]) ∧ Wk W0 b gl cl ge ce n (upd LF v r) En (q ++ [v]) wv w' ∧ Tw b gl ge wv wv w w' := by
  have hl : (ci (q ++ [v])).length = q.length + 1 := by rw [ci_len]; simp
  obtain ⟨g, cap, rfl, h1, h2, h3⟩ := is_some h.way (by rw [hl]; omega)
  rw [hl] at h h1 ⊢
  have c0 := h.c0
  have c2 := h.c2
  have d := h3 q.length (by rw [hl]; omega)
  rw [ci_at, show (q ++ [v]).getD q.length 0 = v by simp] at d
  obtain ⟨x, d2, z2, rc⟩ := h.le hv
  rw [hL] at rc
  obtain ⟨k, hk⟩ : ∃ k, k = r.length := ⟨_, rfl⟩
  have hcl : (ci (t :: r)).length = k + 1 := by rw [ci_len, hk]; rfl
  obtain ⟨a, c, rfl, s, hc1, hc2, hc3⟩ := rc
  rw [hcl] at d2 hc1 s
  obtain ⟨gx, ox, rfl, sx⟩ : ∃ gx ox, a = some ⟨gx, ox, none⟩ ∧ W0.cell? ⟨gx, ox, none⟩ = some (.int .i64 (t : Int)) := by
    rcases s.2 with s | ⟨gx, ox, e, s⟩
    · omega
    · exact ⟨gx, ox, e, by have := s 0 (by omega); rw [Nat.add_zero] at this; exact this⟩
  have d3 := (h.low.cell (p := ⟨gx, ox, none⟩) (World.block_lt_of_cell? _ _ sx)).trans sx
  have rc2 : Rc W0 (.slice (some ⟨gx, ox, none⟩) (k + 1) c) (ci (t :: r)) := ⟨_, c, by rw [hcl], by rw [hcl]; exact s, by omega, hc2, hc3⟩
  have H1 : Wk W0 b gl cl ge ce n LF En (q ++ [v]) (.slice (some ⟨g, 0, none⟩) (q.length + 1) cap) w.drew := h.next ⟨rfl, rfl, rfl, Nat.le_refl _, fun _ _ => rfl⟩
  have T1 : Tw b gl ge (.slice (some ⟨g, 0, none⟩) (q.length + 1) cap) (.slice (some ⟨g, 0, none⟩) (q.length + 1) cap) w w.drew := Tw.of_below ⟨rfl, rfl, rfl, Nat.le_refl _, fun _ _ => rfl⟩
  have ed : ∀ p, (w.setCell ⟨gl, v, none⟩ p).drew = w.drew.setCell ⟨gl, v, none⟩ p := fun _ => rfl
  have K : Hid (∀ (p : Option Addr) (c2 : Nat), c2 = c - 1 → (0 < k → p = some ⟨gx, ox + 1, none⟩) → p ≠ none → Wk W0 b gl cl ge ce n (upd LF v r) En (q ++ [v]) (.slice (some ⟨g, 0, none⟩) (q.length + 1) cap) ((w.setCell ⟨gl, v, none⟩ (.slice p k c2)).drew) ∧ Tw b gl ge (.slice (some ⟨g, 0, none⟩) (q.length + 1) cap) (.slice (some ⟨g, 0, none⟩) (q.length + 1) cap) w ((w.setCell ⟨gl, v, none⟩ (.slice p k c2)).drew)) := fun p c2 hc2 hp hp2 => by
    subst hc2
    rw [ed]
    exact ⟨(H1.setL v (rc2.tail hk p hp hp2)).1, T1.trans (H1.setL v (rc2.tail hk p hp hp2)).2⟩
  obtain ⟨m, hm⟩ : ∃ m, m = q.length := ⟨_, rfl⟩
  rw [← hm] at c2 d K ⊢
  have hm9 : m < 1000000 := by omega
  have hmi : (m : Int) + 1 - 1 = (m : Int) := by omega
  have hk9 : k < 1000000 := by omega
  have hc9 : k + 1 ≤ c := hc1
  have hc8 : c ≤ 9223372036854775807 := by unfold maxLen at hc2; omega
  replace hm := hide hm
  replace hk := hide hk
  clear h h3 hl hq h1 h2 s hc1 hc2 hc3 sx rc2 H1 T1 hcl hr ed
  go_enter Try.func60, Try.ntmps60
  go_wp2_with fail
  go_region
  all_goals
    go_wp2
    all_goals
      go_ret2
  · exact ⟨rfl, unhide K _ _ (by omega) (fun _ => by omega) (by simp)⟩
  · exact ⟨rfl, unhide K _ _ rfl (fun _ => rfl) (by simp)⟩
end Go.Proofs.Ytjgepcifknmdhaa

/- Clone of a row of rows; a new walk. -/
namespace Go.Proofs.Ytjgepcifknmdhaa
open Go.RowKit

set_option maxRecDepth 100000 in
theorem clone46 (w : World) {G cap n : Nat} {cur : Array Value} (hG : w.heap[G]? = some (.cells cur 23 (0, 0))) (xs : List Value) (hx : xs.length = n) (h1 : ∀ u ∈ xs, u.oneCell' = true) (hc : ∀ (j : Nat) (u : Value), xs[j]? = some u → cur[j]? = some u) (hn : n ≤ 1000) :
    Calls Try.prog 80 #[.slice (some ⟨G, 0, none⟩) n cap] w fun e w' => ∃ g c, e = .returned (.slice (some ⟨g, 0, none⟩) n c) ∧ (∃ cur', w'.heap[g]? = some (.cells cur' 23 (0, 0)) ∧ ∀ (j : Nat) (u : Value), xs[j]? = some u → cur'[j]? = some u) ∧ w.heap.size ≤ g ∧ Below w.heap.size w w' := by
  obtain ⟨i0, hi, hz0, hz1, hz2⟩ := info_parts zero23
  have q := fun w => Lib.run_eql_slice_nil (P := Try.prog) w 51 23 (some ⟨G, 0, none⟩) n cap 0 0 Try.underlying51
  have BW := below_new w (.cells #[] 23)
  have own : Hid ((w.alloc (.cells #[] 23)).ownsRow w.heap.size 23 1 (.slice (some ⟨w.heap.size, 0, none⟩) 0 0) 0 []) := World.ownsRow_lit w #[] 0 (Nat.le_refl _) (Nat.zero_le _) rfl
  have g1 := (BW.block _ (heap_lt hG)).trans hG
  have hsrc : Hid (∀ (j : Nat) (u : Value), xs[j]? = some u → (w.alloc (.cells #[] 23)).cell? ((⟨G, 0, none⟩ : Addr).add j) = some u) := fun j u hj => by
    rw [Addr.add_lit, Nat.zero_add]
    simp [World.cell?, g1, hc j u hj]
  have h63 : Hid (0 + n ≤ maxLen) := by show _ ≤ _; unfold maxLen; omega
  have h64 : Hid ((0 + n) * 24 ≤ 140737488355328) := by show _ ≤ _; omega
  have HBW := hide BW
  have Hi := hide (And.intro hi (And.intro hz0 (And.intro hz1 hz2)))
  have hxl : Hid (xs.length = n * 1) := by show _ = _; omega
  replace h1 := hide h1
  clear BW hi hz0 hz1 hz2 hG g1 hc hx
  go_enter Try.func80, Try.ntmps80
  go_wp2_with (at_builtin; refine wpList_append_own _ rfl (.tmp 5) (.tmp 6) 51 rfl w.heap.size 23 i0 _ 1 24 Try.underlying51 (unhide Hi).1 (unhide Hi).2.1 (unhide Hi).2.2.1 (unhide Hi).2.2.2 rfl (by decide) _ 0 [] rfl (unhide own) ⟨G, 0, none⟩ n cap xs rfl (unhide hxl) (unhide hsrc) (unhide h1) (unhide h63) (unhide h64) (unhide HBW).size ?_; intro v' w' a1 a2 a4; replace a1 := hide a1; replace a2 := hide a2; replace a4 := hide a4)
  go_ret
  have a3 := unhide a1
  rw [Nat.zero_add, List.nil_append] at a3
  have hb : Below w.heap.size w w' := (unhide HBW).trans (grown_below (unhide a2) (unhide HBW).size (fun k hk => ((unhide own).lt k hk).1))
  have hne : v' ≠ .slice none 0 0 := fun e => by
    have := ((unhide a4).1 e).1
    cases this
  rcases a3.2 with ⟨e, _⟩ | ⟨g, c, cur', e, k1, k2, k3, k4, k5, k6⟩
  · exact absurd e hne
  · subst e
    refine ⟨g, c, rfl, ⟨cur', k2, fun j u hj => ?_⟩, k1, hb⟩
    rw [← k6, List.getElem?_take] at hj
    split at hj
    · simpa using hj
    · cases hj
theorem zero4 : (Try.prog.info? 4).map (fun i => (i.zero, i.size, i.bytes)) = some (some (.bool false), 1, 1) := by kernel_rfl
theorem make69 (n : Nat) (hn : n ≤ 10000) (w : World) : (Instr.makeSlice 75 (.int .i64 (n : Int)) (.int .i64 (n : Int))).run Try.prog w = .ok (.slice (some ⟨w.heap.size, 0, none⟩) n n) (w.alloc (.cells (madeCells #[.bool false] n) 4)) := by
  obtain ⟨i, hi, hz, hs, hb⟩ := info_parts zero4
  have := run_makeSlice (P := Try.prog) w 75 4 i _ Try.underlying75 hi hz .i64 .i64 (n : Int) (n : Int) (by omega) (Int.le_refl _) (by rw [hs]; omega) (by rw [hb]; omega) (by omega)
  simp only [Int.toNat_natCast, hs, Nat.mul_one] at this
  exact this
theorem rc_one {w : World} {v : Value} {l : List Int} (h : Rc w v l) : v.oneCell' = true := by
  obtain ⟨a, cap, rfl, _⟩ := h
  rfl
/-- The rows of a row of rows, as a list. -/
theorem rws_list {w : World} {v : Value} {n : Nat} {nx : Nat → List Nat} (h : Rws w v n nx) : ∃ (G cap : Nat) (cur : Array Value) (xs : List Value), v = .slice (some ⟨G, 0, none⟩) n cap ∧ w.heap[G]? = some (.cells cur 23 (0, 0)) ∧ xs.length = n ∧ (∀ u ∈ xs, u.oneCell' = true) ∧ (∀ (j : Nat) (u : Value), xs[j]? = some u → cur[j]? = some u) ∧ ∀ i, i < n → ∃ x, xs[i]? = some x ∧ Rc w x (ci (nx i)) := by
  obtain ⟨G, cap, cur, e, h1, h2, h3, h4, h5⟩ := h
  have hl : (cur.toList.take n).length = n := by rw [List.length_take, Array.length_toList]; omega
  have hat : ∀ i, i < n → (cur.toList.take n)[i]? = cur[i]? := fun i hi => by rw [List.getElem?_take_of_lt hi]; simp
  refine ⟨G, cap, cur, cur.toList.take n, e, h1, hl, fun u hu => ?_, fun j u hj => ?_, fun i hi => ?_⟩
  · obtain ⟨i, hi, rfl⟩ := List.getElem_of_mem hu
    rw [hl] at hi
    obtain ⟨x, e1, e2⟩ := h5 i hi
    have := hat i hi
    rw [e1, List.getElem?_eq_getElem (by omega)] at this
    injection this with this
    rw [this]
    exact rc_one e2
  · have hj2 : j < n := by
      have := (List.getElem?_eq_some_iff.1 hj).1
      omega
    rw [← hat j hj2]; exact hj
  · obtain ⟨x, e1, e2⟩ := h5 i hi
    exact ⟨x, by rw [hat i hi]; exact e1, e2⟩
theorem made_false (n : Nat) : ∀ i, i < n → (madeCells #[.bool false] n)[i]? = some (.bool false) := fun i hi => by
  unfold madeCells
  simp [hi, Nat.mod_one]
theorem walk_end {w W3 : World} {n g c ge ce : Nat} {nx : Nat → List Nat} {xs : List Value} (hr : ∀ i, i < n → ∃ x, xs[i]? = some x ∧ Rc w x (ci (nx i))) (hb : Below w.heap.size w W3) (h1 : ∃ cur', W3.heap[g]? = some (.cells cur' 23 (0, 0)) ∧ ∀ (j : Nat) (u : Value), xs[j]? = some u → cur'[j]? = some u) (h2 : W3.heap[ge]? = some (.cells (madeCells #[.bool false] n) 4 (0, 0))) (g1 : w.heap.size ≤ g) (g2 : w.heap.size ≤ ge) {bN : Nat} (hbN : bN = W3.heap.size) :
    Wk w bN g c ge ce n nx (fun _ => false) [] (.slice none 0 0) (W3.alloc (.cells #[.slice (some ⟨g, 0, none⟩) n c, .slice (some ⟨ge, 0, none⟩) n ce, .slice none 0 0] 77)) := by
  subst hbN
  obtain ⟨cur', h3, h4⟩ := h1
  have bn := below_new W3 (.cells #[.slice (some ⟨g, 0, none⟩) n c, .slice (some ⟨ge, 0, none⟩) n ce, .slice none 0 0] 77)
  refine ⟨hb.trans (bn.mono hb.size), heap_alloc_new W3 _, ⟨cur', (bn.block _ (heap_lt h3)).trans h3, fun i hi => ?_⟩, ⟨_, (bn.block _ (heap_lt h2)).trans h2, made_false n⟩, is_nil _ _, hb.size, g1, g2⟩
  obtain ⟨x, e1, e2⟩ := hr i hi
  exact ⟨x, h4 i x e1, e2⟩
set_option maxRecDepth 100000 in
set_option maxHeartbeats 2000000 in
theorem walk_any (w : World) {v1 v2 : Value} {n : Nat} {N : List Int} {nx : Nat → List Nat} (hN : Rd w v1 N) (hn : N.length = n) (h : Rws w v2 n nx) (hn9 : n ≤ 1000) :
    Calls Try.prog 58 #[.agg #[v1, v2]] w fun e w' => ∃ b gl cl ge ce, e = .returned (.pointer (some ⟨b, 0, none⟩)) ∧ Wk w b gl cl ge ce n nx (fun _ => false) [] (.slice none 0 0) w' := by
  obtain ⟨a1, c1, rfl, _⟩ := hN
  rw [hn]
  obtain ⟨G, cap, cur, xs, rfl, hG, hx, h1, hc, hr⟩ := rws_list h
  obtain ⟨W1, hW1⟩ : ∃ W1, W1 = w.alloc (.cells #[.slice a1 n c1, .slice (some ⟨G, 0, none⟩) n cap] 53) := ⟨_, rfl⟩
  have b1 : Below w.heap.size w W1 := by rw [hW1]; exact below_new w _
  have o1 : W1.heap[w.heap.size]? = some (.cells #[.slice a1 n c1, .slice (some ⟨G, 0, none⟩) n cap] 53 (0, 0)) := by rw [hW1]; exact heap_alloc_new w _
  have k0 : W1.cell? ⟨w.heap.size, 0, none⟩ = some (.slice a1 n c1) := by simp [World.cell?, o1]
  have k1 : W1.cell? ⟨w.heap.size, 1, none⟩ = some (.slice (some ⟨G, 0, none⟩) n cap) := by simp [World.cell?, o1]
  have hmk := make69 n (by omega)
  have g1 := (b1.block _ (heap_lt hG)).trans hG
  have C1 := hide (fun (W : World) (bW : Below W1.heap.size W1 W) => clone46 W ((bW.block _ (heap_lt g1)).trans g1) xs hx h1 hc hn9 (cap := cap))
  have kk : Hid (∀ W, Below W1.heap.size W1 W → W.cell? ⟨w.heap.size, 0, none⟩ = some (.slice a1 n c1) ∧ W.cell? ⟨w.heap.size, 1, none⟩ = some (.slice (some ⟨G, 0, none⟩) n cap)) := fun W hb =>
    ⟨(hb.cell (p := ⟨w.heap.size, 0, none⟩) (heap_lt o1)).trans k0, (hb.cell (p := ⟨w.heap.size, 1, none⟩) (heap_lt o1)).trans k1⟩
  have bd0 : Hid (Below W1.heap.size W1 W1.drew) := ⟨rfl, rfl, rfl, Nat.le_refl _, fun _ _ => rfl⟩
  have bd1 : Hid (∀ o, Below W1.heap.size W1 ((W1.alloc o).drew)) := fun o => (below_new W1 o).drew
  obtain ⟨m0, m1⟩ := unhide kk _ (unhide bd0)
  have n01 : ∀ o, ((W1.alloc o).drew).cell? ⟨w.heap.size, 0, none⟩ = some (.slice a1 n c1) := fun o => (unhide kk _ (unhide bd1 o)).1
  have n02 : ∀ o, ((W1.alloc o).drew).cell? ⟨w.heap.size, 1, none⟩ = some (.slice (some ⟨G, 0, none⟩) n cap) := fun o => (unhide kk _ (unhide bd1 o)).2
  have b1h := hide b1
  have hrh := hide hr
  have h1h := hide h1
  have hch := hide hc
  clear h1 hc hr h b1 g1 hG o1
  go_enter Try.func58, Try.ntmps58
  go_wp2_with fail
  rw [← hW1]
  replace hW1 := hide hW1
  go_region_held3 (fun wz => wz.cell? ⟨w.heap.size, 0, none⟩ = some (.slice a1 n c1) ∧ wz.cell? ⟨w.heap.size, 1, none⟩ = some (.slice (some ⟨G, 0, none⟩) n cap))
    (first | exact ⟨k0, k1⟩ | exact ⟨m0, m1⟩ | exact ⟨n01 _, n02 _⟩ | exact ⟨p0, p1⟩ | exact ⟨p2 _, p3 _⟩ | exact ⟨p4 _ _, p5 _ _⟩)
    (first | (go_at_call 80; with_reducible refine Calls.mono (unhide C1 _ (unhide bd0)) ?_; rintro e w5 ⟨g, c, rfl, q1, q2, q3⟩; have b5 := (unhide bd0).trans (q3.mono (unhide bd0).size); obtain ⟨p0, p1⟩ := unhide kk _ b5; have p2 := (fun o => (unhide kk _ (b5.trans ((below_new w5 o).mono b5.size))).1); have p3 := (fun o => (unhide kk _ (b5.trans ((below_new w5 o).mono b5.size))).2); have p4 := (fun o o' => (unhide kk _ (b5.trans ((below_add (below_new w5 o) o').mono b5.size))).1); have p5 := (fun o o' => (unhide kk _ (b5.trans ((below_add (below_new w5 o) o').mono b5.size))).2); replace q1 := hide q1; replace q3 := hide q3; replace b5 := hide b5) | (go_at_call 80; with_reducible refine Calls.mono (unhide C1 _ (unhide bd1 _)) ?_; rintro e w5 ⟨g, c, rfl, q1, q2, q3⟩; have b5 := (unhide bd1 _).trans (q3.mono (unhide bd1 _).size); obtain ⟨p0, p1⟩ := unhide kk _ b5; have p2 := (fun o => (unhide kk _ (b5.trans ((below_new w5 o).mono b5.size))).1); have p3 := (fun o => (unhide kk _ (b5.trans ((below_new w5 o).mono b5.size))).2); replace q1 := hide q1; replace q3 := hide q3; replace b5 := hide b5))
  all_goals
    clear p2 p3
    have hws : w.heap.size ≤ W1.heap.size := (unhide b1h).size
    have B5 : Below w.heap.size w w5 := (unhide b1h).trans ((unhide b5).mono (unhide b1h).size)
    replace hws := hide hws
    replace B5 := hide B5
    replace q2 := hide q2
    go_wp2
    go_ret
  · refine ⟨_, g, c, w5.heap.size, n, rfl, walk_end (W3 := w5.alloc (.cells (madeCells #[.bool false] n) 4)) (unhide hrh) (below_add (unhide B5) _) ?_ (heap_alloc_new _ _) ?_ (unhide B5).size (by simp)⟩
    · obtain ⟨cur', e1, e2⟩ := unhide q1
      exact ⟨cur', ((below_new w5 _).block _ (heap_lt e1)).trans e1, e2⟩
    · exact Nat.le_trans (unhide hws) (unhide q2)
  · refine ⟨_, g, c, W1.heap.size, n, rfl, walk_end (W3 := w5) (unhide hrh) (unhide B5) (unhide q1) ?_ ?_ (unhide hws) rfl⟩
    · refine ((unhide q3).block _ ?_).trans (heap_alloc_new W1 _)
      show W1.heap.size < (W1.alloc _).heap.size
      simp
    · have h9 : (W1.alloc (.cells (madeCells #[.bool false] n) 4)).heap.size ≤ g := unhide q2
      simp at h9
      have := unhide hws
      omega
end Go.Proofs.Ytjgepcifknmdhaa

/- all: a walk through all that can be reached. -/
namespace Go.Proofs.Ytjgepcifknmdhaa
open Go.RowKit

section
variable {σ : Type}
theorem exists_min (S : σ → Prop) (m : σ → Nat) (h : ∃ s, S s) : ∃ s, S s ∧ ∀ s', S s' → m s ≤ m s' := by
  have key : ∀ (k : Nat) (s : σ), S s → m s ≤ k → ∃ s, S s ∧ ∀ s', S s' → m s ≤ m s' := by
    intro k
    induction k with
    | zero => exact fun s hs hk => ⟨s, hs, fun s' _ => by omega⟩
    | succ k ih =>
      intro s hs hk
      by_cases h2 : ∃ s', S s' ∧ m s' ≤ k
      · obtain ⟨s', h3, h4⟩ := h2
        exact ih s' h3 h4
      · exact ⟨s, hs, fun s' hs' => by
          by_cases h5 : m s' ≤ k
          · exact absurd ⟨s', hs', h5⟩ h2
          · omega⟩
  obtain ⟨s, hs⟩ := h
  exact key (m s) s hs (Nat.le_refl _)
open Classical in
/-- The least measure of a state that fits. -/
noncomputable def lo (S : σ → Prop) (m : σ → Nat) : Nat := if h : ∃ s, S s then m (Classical.choose (exists_min S m h)) else 0
theorem lo_le {S : σ → Prop} {m : σ → Nat} {s : σ} (h : S s) : lo S m ≤ m s := by
  have h1 : ∃ s, S s := ⟨s, h⟩
  unfold lo
  rw [dif_pos h1]
  exact (Classical.choose_spec (exists_min S m h1)).2 s h
theorem lo_at {S : σ → Prop} (m : σ → Nat) (h : ∃ s, S s) : ∃ s, S s ∧ lo S m = m s := by
  refine ⟨Classical.choose (exists_min S m h), (Classical.choose_spec (exists_min S m h)).1, ?_⟩
  unfold lo
  rw [dif_pos h]
end
theorem nd_le : ∀ (n : Nat) (l : List Nat), l.Nodup → (∀ x ∈ l, x < n) → l.length ≤ n
  | 0, l, _, h => by
    cases l with
    | nil => exact Nat.le_refl _
    | cons x r => have := h x (by simp); omega
  | n + 1, l, hn, h => by
    by_cases k : n ∈ l
    · have h1 := nd_le n (l.erase n) (hn.erase n) (fun x hx => by
        have h2 := (hn.mem_erase_iff).1 hx
        have h3 := h x h2.2
        have := h2.1
        omega)
      rw [List.length_erase_of_mem k] at h1
      omega
    · have h1 := nd_le n l hn (fun x hx => by
        have h3 := h x hx
        have : x ≠ n := fun e => k (e ▸ hx)
        omega)
      omega
/-- How many are left. -/
def sumL (LF : Nat → List Nat) : Nat → Nat
  | 0 => 0
  | n + 1 => sumL LF n + (LF n).length
theorem nil_or_snoc {α : Type} (l : List α) : l = [] ∨ ∃ q v, l = q ++ [v] := by
  rcases List.eq_nil_or_concat l with h | ⟨q, v, h⟩
  · exact .inl h
  · exact .inr ⟨q, v, by rw [h]; simp⟩
theorem sum_far {LF : Nat → List Nat} {v : Nat} {r : List Nat} : ∀ n, n ≤ v → sumL (upd LF v r) n = sumL LF n
  | 0, _ => rfl
  | n + 1, h => by
    unfold sumL
    rw [sum_far (v := v) (r := r) n (by omega), upd_other (i := n) (k := v) LF r (by omega)]
theorem sum_upd {LF : Nat → List Nat} {v : Nat} {r : List Nat} : ∀ n, v < n → sumL (upd LF v r) n + (LF v).length = sumL LF n + r.length
  | 0, h => by omega
  | n + 1, h => by
    unfold sumL
    by_cases e : v = n
    · subst e
      rw [sum_far (LF := LF) (v := v) (r := r) v (Nat.le_refl _), upd_same]
      omega
    · have h2 : v < n := by omega
      have := sum_upd (LF := LF) (v := v) (r := r) n h2
      rw [upd_other (i := n) (k := v) LF r (fun q => e q.symm)]
      omega
/-- What a walk is at. -/
structure Ws where
  LF : Nat → List Nat
  En : Nat → Bool
  P : List Nat
  out : List Nat
  wv : Value
/-- What is left to do. -/
def Ws.left (n : Nat) (s : Ws) : Nat := 2 * sumL s.LF n + s.P.length
theorem Is.tw {M : Nat} {ov wv wv' : Value} {l : List Int} {w w' W0 : World} {b gl cl ge ce n : Nat} {LF : Nat → List Nat} {En : Nat → Bool} {P : List Nat} (h : Is M ov l w) (k : Wk W0 b gl cl ge ce n LF En P wv w) (t : Tw b gl ge wv wv' w w') (hd : ∀ k, wv.ownBlock = some k → ov.ownBlock ≠ some k) :
    Is M ov l w' ∧ ∀ k, wv'.ownBlock = some k → ov.ownBlock ≠ some k := by
  refine ⟨h.keep fun g hg => ?_, fun k e1 e2 => ?_⟩
  · obtain ⟨c, hc⟩ := h.ty g hg
    refine t.block g (h.lt g hg).2 (fun e => ?_) (fun e => ?_) (fun e => ?_) (fun e => hd g e hg)
    · rw [e, k.blk] at hc; cases hc
    · obtain ⟨c1, h1, _⟩ := k.lft
      rw [e, h1] at hc; cases hc
    · obtain ⟨c1, h1, _⟩ := k.ent
      rw [e, h1] at hc; cases hc
  · rcases t.at_ k e1 with h1 | h1
    · exact hd k h1 e2
    · have := (h.lt k e2).2; omega
/-- A row of numbers beside the walk is turned. -/
theorem Wk.beside {M : Nat} {ov wv : Value} {l : List Int} {w w' W0 : World} {b gl cl ge ce n : Nat} {LF : Nat → List Nat} {En : Nat → Bool} {P : List Nat} (k : Wk W0 b gl cl ge ce n LF En P wv w) (h : Is M ov l w) (hg : w.grownBy w' ov.ownBlock) (hM : W0.heap.size ≤ M) (hd : ∀ k, wv.ownBlock = some k → ov.ownBlock ≠ some k) : Wk W0 b gl cl ge ce n LF En P wv w' := by
  have keepT : ∀ (k : Nat) (cur : Array Value) (t : TypeId), w.heap[k]? = some (.cells cur t (0, 0)) → t ≠ 3 → w'.heap[k]? = some (.cells cur t (0, 0)) := fun k cur t hk ht => (hg.block k (heap_lt hk) (fun e => by
    obtain ⟨c, hc⟩ := h.ty k e.symm
    rw [hk] at hc; cases hc; exact ht rfl)).trans hk
  obtain ⟨c1, h1, h2⟩ := k.lft
  obtain ⟨c3, h3, h4⟩ := k.ent
  exact ⟨k.low.grown hg k.low.size (fun j e => Nat.le_trans hM (h.lt j e).1), keepT _ _ _ k.blk (by decide), ⟨c1, keepT _ _ _ h1 (by decide), h2⟩, ⟨c3, keepT _ _ _ h3 (by decide), h4⟩,
    k.way.keep fun j hj => hg.block j (k.way.lt j hj).2 (fun e => hd j hj e.symm), k.b0, k.l0, k.e0⟩
theorem Tw.beside {M : Nat} {ov wv wv' : Value} {l : List Int} {w w1 w' : World} {b gl ge : Nat} (t : Tw b gl ge wv wv' w w1) (h : Is M ov l w1) (hg : w1.grownBy w' ov.ownBlock) (hM : w.heap.size ≤ M) : Tw b gl ge wv wv' w w' :=
  ⟨hg.os.trans t.os, hg.tape.trans t.tape, hg.output.trans t.output, Nat.le_trans t.size hg.size, fun k hk h1 h2 h3 h4 => (hg.block k (Nat.lt_of_lt_of_le hk t.size) (fun e => by have := (h.lt k e.symm).1; omega)).trans (t.block k hk h1 h2 h3 h4), t.at_⟩
/-- The rounds of all. -/
structure Ar (W0 : World) (b gl cl ge ce n : Nat) (nx : Nat → List Nat) (p0 : Nat) (O : List Nat) (wv0 : Value) (w0 : World) (ov : Value) (w : World) (s : Ws) : Prop where
  wk : Wk W0 b gl cl ge ce n s.LF s.En s.P s.wv w
  sa : Sa nx p0 O s.LF s.En s.P s.out
  is : Is w0.heap.size ov (ci s.out) w
  tw : Tw b gl ge wv0 s.wv w0 w
  ap : ∀ k, s.wv.ownBlock = some k → ov.ownBlock ≠ some k
  lt : ∀ x, x ∈ s.out ∨ x ∈ s.P → x < n
theorem all_lt {nx : Nat → List Nat} {n : Nat} (hb : ∀ x, x < n → ∀ y ∈ nx x, y < n) {LF : Nat → List Nat} {v t : Nat} {r pre : List Nat} (hv : v < n) (e1 : nx v = pre ++ LF v) (e : LF v = t :: r) : t < n := by
  refine hb v hv t ?_
  rw [e1, e]; simp
namespace Ar
variable {W0 : World} {b gl cl ge ce n : Nat} {nx : Nat → List Nat} {p0 : Nat} {O : List Nat} {wv0 : Value} {w0 w w' : World} {ov : Value} {LF : Nat → List Nat} {En : Nat → Bool} {q out : List Nat} {v : Nat} {wv : Value}
theorem few (h : Ar W0 b gl cl ge ce n nx p0 O wv0 w0 ov w ⟨LF, En, q ++ [v], out, wv⟩) (hn : n ≤ 1000) : q.length ≤ 1000 ∧ out.length ≤ 1000 := by
  have h1 := h.sa.nd
  rw [List.nodup_append] at h1
  have h2 := h1.2.1
  have h3 := h1.1
  rw [List.nodup_append] at h3
  have h4 := nd_le n _ h2 (fun x hx => h.lt x (.inr hx))
  have h5 := nd_le n _ h3.2.1 (fun x hx => h.lt x (.inl hx))
  have h6 : (q ++ [v]).length ≤ n := h4
  rw [List.length_append, List.length_singleton] at h6
  have h7 : out.length ≤ n := h5
  omega
/-- The next one was there already. -/
theorem again (h : Ar W0 b gl cl ge ce n nx p0 O wv0 w0 ov w ⟨LF, En, q ++ [v], out, wv⟩) {t : Nat} {r : List Nat} (e : LF v = t :: r) (hE : En t = true) (k : Wk W0 b gl cl ge ce n (upd LF v r) En (q ++ [v]) wv w') (tw : Tw b gl ge wv wv w w') :
    Ar W0 b gl cl ge ce n nx p0 O wv0 w0 ov w' ⟨upd LF v r, En, q ++ [v], out, wv⟩ ∧ Ws.left n ⟨upd LF v r, En, q ++ [v], out, wv⟩ < Ws.left n ⟨LF, En, q ++ [v], out, wv⟩ := by
  obtain ⟨i1, i2⟩ := h.is.tw h.wk tw h.ap
  refine ⟨⟨k, h.sa.again e hE, i1, h.tw.trans tw, i2, h.lt⟩, ?_⟩
  have := sum_upd (LF := LF) (r := r) n (h.lt v (.inr (by simp)))
  rw [e, List.length_cons] at this
  unfold Ws.left
  show 2 * sumL (upd LF v r) n + (q ++ [v]).length < 2 * sumL LF n + (q ++ [v]).length
  omega
theorem go (h : Ar W0 b gl cl ge ce n nx p0 O wv0 w0 ov w ⟨LF, En, q ++ [v], out, wv⟩) (hb : ∀ x, x < n → ∀ y ∈ nx x, y < n) {t : Nat} {r : List Nat} (e : LF v = t :: r) (hE : En t = false) {wv' : Value} (k : Wk W0 b gl cl ge ce n (upd LF v r) (upd En t true) (q ++ [v] ++ [t]) wv' w') (tw : Tw b gl ge wv wv' w w') :
    Ar W0 b gl cl ge ce n nx p0 O wv0 w0 ov w' ⟨upd LF v r, upd En t true, q ++ [v] ++ [t], out, wv'⟩ ∧ Ws.left n ⟨upd LF v r, upd En t true, q ++ [v] ++ [t], out, wv'⟩ < Ws.left n ⟨LF, En, q ++ [v], out, wv⟩ := by
  obtain ⟨i1, i2⟩ := h.is.tw h.wk tw h.ap
  have hv : v < n := h.lt v (.inr (by simp))
  obtain ⟨pre, e1, _⟩ := h.sa.tri v (by simp)
  refine ⟨⟨k, h.sa.go e hE, i1, h.tw.trans tw, i2, fun x hx => ?_⟩, ?_⟩
  · rcases hx with hx | hx
    · exact h.lt x (.inl hx)
    · rcases List.mem_append.1 hx with hx | hx
      · exact h.lt x (.inr hx)
      · rw [List.mem_singleton.1 hx]
        exact all_lt hb hv e1 e
  · have := sum_upd (LF := LF) (r := r) n hv
    rw [e, List.length_cons] at this
    unfold Ws.left
    show 2 * sumL (upd LF v r) n + (q ++ [v] ++ [t]).length < 2 * sumL LF n + (q ++ [v]).length
    rw [List.length_append, List.length_singleton]
    omega
/-- v is left, and written down. -/
theorem back (h : Ar W0 b gl cl ge ce n nx p0 O wv0 w0 ov w ⟨LF, En, q ++ [v], out, wv⟩) (e : LF v = []) (hW : W0.heap.size ≤ w0.heap.size) {wv' : Value} {w1 : World} (k : Wk W0 b gl cl ge ce n LF En q wv' w1) (tw : Tw b gl ge wv wv' w w1) :
    Is w0.heap.size ov (ci out) w1 ∧ ∀ (ov' : Value) (w2 : World) (g : Nat), Is w0.heap.size ov' (ci out ++ [(v : Int)]) w2 → w1.grownBy w2 ov.ownBlock → ov'.ownBlock = some g → (ov.ownBlock = some g ∨ w1.heap.size ≤ g) →
      Ar W0 b gl cl ge ce n nx p0 O wv0 w0 ov' w2 ⟨LF, En, q, out ++ [v], wv'⟩ ∧ Ws.left n ⟨LF, En, q, out ++ [v], wv'⟩ < Ws.left n ⟨LF, En, q ++ [v], out, wv⟩ := by
  obtain ⟨i1, i2⟩ := h.is.tw h.wk tw h.ap
  refine ⟨i1, fun ov' w2 g j1 j2 j3 j4 => ⟨⟨k.beside i1 j2 hW i2, h.sa.back e, by rw [ci_app]; exact j1, (h.tw.trans tw).beside i1 j2 (Nat.le_refl _), fun x e1 e2 => ?_, fun x hx => ?_⟩, ?_⟩⟩
  · rw [j3] at e2
    injection e2 with e2
    subst e2
    rcases j4 with j4 | j4
    · exact i2 g e1 j4
    · have := (k.way.lt g e1).2; omega
  · rcases hx with hx | hx
    · rcases List.mem_append.1 hx with hx | hx
      · exact h.lt x (.inl hx)
      · exact h.lt x (.inr (by rw [List.mem_singleton.1 hx]; simp))
    · exact h.lt x (.inr (List.mem_append_left _ hx))
  · unfold Ws.left
    show 2 * sumL LF n + q.length < 2 * sumL LF n + (q ++ [v]).length
    rw [List.length_append, List.length_singleton]
    omega
end Ar
variable {W0 : World} {b gl cl ge ce n : Nat} {nx : Nat → List Nat} {O : List Nat} {LF : Nat → List Nat} {En : Nat → Bool} {wv : Value}
/-- What all leaves behind. -/
def AllPost (W0 : World) (b gl cl ge ce n : Nat) (nx : Nat → List Nat) (p0 : Nat) (O : List Nat) (wv : Value) (w : World) (e : Ending) (w' : World) : Prop :=
  ∃ (ov wv' : Value) (out : List Nat) (LF' : Nat → List Nat) (En' : Nat → Bool), e = .returned ov ∧ Is w.heap.size ov (ci out) w' ∧ Wk W0 b gl cl ge ce n LF' En' [] wv' w' ∧ Tw b gl ge wv wv' w w' ∧ Fi nx (O ++ out) LF' En' ∧
    (∀ x ∈ out, Rch (Ed nx) p0 x ∧ x < n) ∧ p0 ∈ O ++ out ∧ (p0 ∈ O → out = []) ∧ ∀ k, wv'.ownBlock = some k → ov.ownBlock ≠ some k
set_option maxRecDepth 100000 in
set_option maxHeartbeats 4000000 in
theorem all_new (w : World) (h : Wk W0 b gl cl ge ce n LF En [] wv w) (hf : Fi nx O LF En) {p0 : Nat} (hp : p0 < n) (hE : En p0 = false) (hb : ∀ x, x < n → ∀ y ∈ nx x, y < n) (hn : n ≤ 1000) (hl : ∀ x, x < n → (nx x).length < 1000000) :
    Calls Try.prog 76 #[.pointer (some ⟨b, 0, none⟩), .int .i64 p0] w (AllPost W0 b gl cl ge ce n nx p0 O wv w) := by
  have hW := hide h.low.size
  have C := hide (enter_new w h hp hE (by simp))
  have hpO : p0 ∉ O := fun k => by rw [(hf.ent p0).2 k] at hE; cases hE
  have S0 := hide (Sa.start hf hE)
  replace hb := hide hb
  replace hl := hide hl
  replace hpO := hide hpO
  replace hp := hide hp
  clear h hf hE
  go_enter Try.func76, Try.ntmps76
  go_wp2_with fail
  refine (unhide C).mono ?_
  rintro e w1 ⟨wv1, rfl, k1, t1⟩
  have A1 : Hid (Ar W0 b gl cl ge ce n nx p0 O wv w (.slice none 0 0) w1 ⟨LF, upd En p0 true, [p0], [], wv1⟩) :=
    ⟨k1, unhide S0, is_nil _ _, t1, fun k _ e => (by cases e), fun x hx => by
      rcases hx with hx | hx
      · cases hx
      · rw [List.mem_singleton.1 hx]; exact unhide hp⟩
  clear k1 t1 S0 C
  go_wp2
  go_loopw [5] (fun s5 wr => ∃ (s : Ws), Hid (Ar W0 b gl cl ge ce n nx p0 O wv w s5 wr s)) (fun s5 wr => lo (fun s => Hid (Ar W0 b gl cl ge ce n nx p0 O wv w s5 wr s)) (Ws.left n))
  case atStart => exact ⟨_, unhide A1⟩
  case round =>
    obtain ⟨⟨LF1, En1, P1, out1, wv1⟩, A2, hlo⟩ := lo_at (Ws.left n) hrel
    clear hrel
    replace hlo := hide hlo
    rcases nil_or_snoc P1 with rfl | ⟨q, v, rfl⟩
    · obtain ⟨a1, c1, e1⟩ := (unhide A2).wk.way.form
      have e2 : wv1 = .slice a1 0 c1 := e1
      subst e2
      have c2 := (unhide A2).wk.c2
      obtain ⟨a3, c3, e3⟩ := (unhide A2).is.form
      obtain ⟨m, hm⟩ : ∃ m, m = (ci out1).length := ⟨_, rfl⟩
      rw [← hm] at e3
      subst e3
      replace hm := hide hm
      go_wp2
      go_ret
      obtain ⟨f1, f2, f3⟩ := (unhide A2).sa.fin
      refine ⟨_, _, out1, LF1, En1, rfl, (unhide A2).is, (unhide A2).wk, (unhide A2).tw, f1, fun x hx => ⟨f2 x hx, (unhide A2).lt x (.inl hx)⟩, f3, fun k => absurd k (unhide hpO), (unhide A2).ap⟩
    · obtain ⟨hq9, ho9⟩ := (unhide A2).few hn
      have hv : v < n := (unhide A2).lt v (.inr (by simp))
      obtain ⟨pre, e1, _⟩ := (unhide A2).sa.tri v (by simp)
      have hL9 : (LF1 v).length < 1000000 := by
        have h1 := unhide hl v hv
        have h2 : nx v = pre ++ LF1 v := e1
        rw [h2, List.length_append] at h1
        omega
      obtain ⟨gw, cw, ew, _, _, _⟩ := is_some (unhide A2).wk.way (by show 0 < (ci (q ++ [v])).length; rw [ci_len]; simp)
      have c2 : wr.cell? ⟨b, 2, none⟩ = some (.slice (some ⟨gw, 0, none⟩) (q.length + 1) cw) := by
        have h1 := (unhide A2).wk.c2
        have h2 : wv1 = .slice (some ⟨gw, 0, none⟩) (ci (q ++ [v])).length cw := ew
        rw [ci_len, List.length_append, List.length_singleton] at h2
        rw [← h2]
        exact h1
      replace ew := hide ew
      replace e1 := hide e1
      cases hL : LF1 v with
      | nil =>
        replace hL := hide hL
        go_wp2_with fail
        refine (try_none wr (unhide A2).wk (by omega) hv (unhide hL)).mono ?_
        rintro e w2 ⟨rfl, k2, t2⟩
        replace k2 := hide k2
        replace t2 := hide t2
        clear c2
        go_wp2_with fail
        refine (leave_any w2 (unhide k2) (by omega)).mono ?_
        rintro e w3 ⟨wv3, rfl, k3, t3⟩
        obtain ⟨i1, F⟩ := (unhide A2).back (unhide hL) (unhide hW) k3 ((unhide t2).trans t3)
        obtain ⟨m, hm⟩ : ∃ m, m = (ci out1).length := ⟨_, rfl⟩
        have hm9 : m < 10000000 := by rw [hm, ci_len]; omega
        have hbs : Hid (w.heap.size ≤ w3.heap.size) := Nat.le_trans (unhide A2).tw.size ((unhide t2).trans t3).size
        replace i1 := hide i1
        replace F := hide F
        replace hm := hide hm
        clear k3 t3 hL9
        go_wp2_with (at_builtin; refine wpList_pushL _ rfl (.tmp 26) (.tmp 29) rfl w.heap.size u5 m _ (v : Int) _ rfl rfl rfl (unhide hm).symm (unhide i1) (unhide hbs) hm9 ?_; intro g5 cap5 w4 a1 a2 a3; have f1 := unhide F _ w4 g5 a1 a2 rfl (a3.imp id (fun h => by omega)); replace a1 := hide a1; replace a2 := hide a2; replace a3 := hide a3; replace f1 := hide f1)
        go_roundw
        case rel => exact ⟨_, (unhide f1).1⟩
        case measure => exact Nat.lt_of_le_of_lt (lo_le (unhide f1).1) (by rw [unhide hlo]; exact (unhide f1).2)
      | cons t r =>
        have hr9 : r.length < 1000000 := by rw [hL, List.length_cons] at hL9; omega
        have htn : t < n := all_lt (unhide hb) hv (unhide e1) hL
        replace hL := hide hL
        go_wp2_with fail
        refine (try_some wr (unhide A2).wk (by omega) hv (unhide hL) hr9).mono ?_
        rintro e w2 ⟨rfl, k2, t2⟩
        replace k2 := hide k2
        replace t2 := hide t2
        clear c2
        cases hE : En1 t
        · replace hE := hide hE
          go_wp2_with fail
          refine (enter_new w2 (unhide k2) htn (unhide hE) (by rw [List.length_append, List.length_singleton]; omega)).mono ?_
          rintro e w3 ⟨wv3, rfl, k3, t3⟩
          have f1 := hide ((unhide A2).go (unhide hb) (unhide hL) (unhide hE) k3 ((unhide t2).trans t3))
          clear k3 t3
          go_wp2
          go_roundw
          case rel => exact ⟨_, (unhide f1).1⟩
          case measure => exact Nat.lt_of_le_of_lt (lo_le (unhide f1).1) (by rw [unhide hlo]; exact (unhide f1).2)
        · replace hE := hide hE
          go_wp2_with fail
          refine (enter_old w2 (unhide k2) htn (unhide hE)).mono ?_
          rintro e w3 ⟨rfl, rfl⟩
          have f1 := hide ((unhide A2).again (unhide hL) (unhide hE) (unhide k2) (unhide t2))
          go_wp2
          go_roundw
          case rel => exact ⟨_, (unhide f1).1⟩
          case measure => exact Nat.lt_of_le_of_lt (lo_le (unhide f1).1) (by rw [unhide hlo]; exact (unhide f1).2)
set_option maxRecDepth 100000 in
theorem all_old (w : World) (h : Wk W0 b gl cl ge ce n LF En [] wv w) (hf : Fi nx O LF En) {p0 : Nat} (hp : p0 < n) (hE : En p0 = true) :
    Calls Try.prog 76 #[.pointer (some ⟨b, 0, none⟩), .int .i64 p0] w (AllPost W0 b gl cl ge ce n nx p0 O wv w) := by
  have hpO : p0 ∈ O := (hf.ent p0).1 hE
  have H := hide h
  have F := hide hf
  obtain ⟨a1, c1, e1⟩ := h.way.form
  have e2 : wv = .slice a1 0 c1 := e1
  subst e2
  have c2 := h.c2
  replace hE := hide hE
  replace hpO := hide hpO
  clear h hf e1
  go_enter Try.func76, Try.ntmps76
  go_wp2_with fail
  refine (enter_old w (unhide H) hp (unhide hE)).mono ?_
  rintro e w1 ⟨rfl, rfl⟩
  go_wp2
  go_loopw [5] (fun s5 wr => s5 = .slice none 0 0 ∧ ∃ wz : World, wz = wr ∧ w1 = wz) (fun _ _ => 1)
  case atStart => exact ⟨rfl, _, rfl, rfl⟩
  case round =>
    obtain ⟨rfl, wz, hz, rfl⟩ := hrel
    subst hz
    go_wp2
    go_ret
    refine ⟨_, _, [], LF, En, rfl, is_nil _ _, unhide H, Tw.of_below (Below.refl _ _), by rw [List.append_nil]; exact unhide F, fun x hx => (by cases hx), by rw [List.append_nil]; exact unhide hpO, fun _ => rfl, fun k _ e => (by cases e)⟩
theorem all_any (w : World) (h : Wk W0 b gl cl ge ce n LF En [] wv w) (hf : Fi nx O LF En) {p0 : Nat} (hp : p0 < n) (hb : ∀ x, x < n → ∀ y ∈ nx x, y < n) (hn : n ≤ 1000) (hl : ∀ x, x < n → (nx x).length < 1000000) :
    Calls Try.prog 76 #[.pointer (some ⟨b, 0, none⟩), .int .i64 p0] w (AllPost W0 b gl cl ge ce n nx p0 O wv w) := by
  cases hE : En p0
  · exact all_new w h hf hp hE hb hn hl
  · exact all_old w h hf hp hE
end Go.Proofs.Ytjgepcifknmdhaa
