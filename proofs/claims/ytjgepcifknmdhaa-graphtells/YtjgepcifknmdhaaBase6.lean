/- Texts of this claim, put together in their order. -/
import Derived.BigQuiet
import Derived.Deep.Slices
import Derived.ProofKit
import Derived.Test.YtjgepcifknmdhaaBase1
import Derived.Test.YtjgepcifknmdhaaBase2
import Derived.Test.YtjgepcifknmdhaaBase3
import Derived.Test.YtjgepcifknmdhaaBase4
import Derived.Test.YtjgepcifknmdhaaBase5
/- groups. -/
namespace Go.Proofs.Ytjgepcifknmdhaa
open Go.RowKit Go.Shelf

attribute [local go_sem] Oper.semAt_some

/-- The slice v is read: the groups. -/
def Gr (w : World) (v : Value) (G : List (List Nat)) : Prop := ∃ a c, v = .slice a G.length c ∧ ∀ i, i < G.length → ∃ g, a = some ⟨g, 0, none⟩ ∧ ∃ x, w.cell? ⟨g, i, none⟩ = some x ∧ Rc w x (ci (G.getD i []))
/-- What a round of the second pass begins with. -/
def Axg (kb ob : Nat) (x : Int) (a' : Act) : Prop := ∃ (u0 u1 u2 u3 u5 u7 u9 u10 u11 u12 u13 u14 u15 u16 u17 u18 u19 u20 u21 u22 u23 u24 u25 u26 u27 u28 u29 u30 u31 u32 u33 u34 u35 u36 u37 u38 u39 u40 u41 : Value), a' = { tmps := #[u0, u1, u2, u3, .pointer (some ⟨kb, 0, none⟩), u5, .pointer (some ⟨ob, 0, none⟩), u7, .int .i64 x, u9, u10, u11, u12, u13, u14, u15, u16, u17, u18, u19, u20, u21, u22, u23, u24, u25, u26, u27, u28, u29, u30, u31, u32, u33, u34, u35, u36, u37, u38, u39, u40, u41], defers := [] }
/-- What groups answers. -/
def GroPost (w : World) (n : Nat) (nx : Nat → List Nat) (e : Ending) (w' : World) : Prop :=
  ∃ (ov : Value) (G : List (List Nat)), e = .returned ov ∧ Gr w' ov G ∧ (∀ g ∈ G, g.Nodup ∧ ∃ p, p ∈ g ∧ ∀ x, x ∈ g ↔ Sc nx p x) ∧ (∀ x, x < n → ∃ g ∈ G, x ∈ g) ∧ (∀ g ∈ G, g ≠ [] ∧ ∀ x ∈ g, x < n) ∧ G.length ≤ n ∧ Below w.heap.size w w'
theorem nd_le' : ∀ (n : Nat) (l : List Nat), (∀ x, x < n → x ∈ l) → n ≤ l.length := fun n l h => by
  have h1 : (List.range n).Nodup := List.nodup_range
  have h2 : (List.range n).length ≤ l.length := by
    have h3 : ∀ (a b : List Nat), a.Nodup → (∀ x ∈ a, x ∈ b) → a.length ≤ b.length := by
      intro a
      induction a with
      | nil => intro b _ _; exact Nat.zero_le _
      | cons x r ih =>
        intro b hn hs
        have hx : x ∈ b := hs x (by simp)
        have h4 := ih (b.erase x) (List.nodup_cons.1 hn).2 (fun y hy => by
          have hne : y ≠ x := fun e => (List.nodup_cons.1 hn).1 (e ▸ hy)
          exact (List.mem_erase_of_ne hne).2 (hs y (List.mem_cons_of_mem _ hy)))
        rw [List.length_erase_of_mem hx] at h4
        have := List.length_pos_of_mem hx
        simp
        omega
    exact h3 _ _ h1 (fun x hx => h x (List.mem_range.1 hx))
  simpa using h2
theorem few_two {n : Nat} {O out : List Nat} (hn : n ≤ 700) (h1 : ∀ x ∈ O, x < n) (h2 : ∀ x ∈ out, x < n) (h3 : (O ++ out).Nodup) : (ci O).length + (ci out).length ≤ 100000000 := by
  have := nd_le n _ h3 (fun x hx => (List.mem_append.1 hx).elim (h1 x) (h2 x))
  rw [List.length_append] at this
  rw [ci_len, ci_len]
  omega
set_option maxRecDepth 100000 in
set_option maxHeartbeats 4000000 in
theorem groups_any (w : World) {v1 v2 : Value} {N : List Int} {n : Nat} {nx : Nat → List Nat} (hN : Rd w v1 N) (hNn : N.length = n) (h : Rws w v2 n nx) (hb : ∀ x, x < n → ∀ y ∈ nx x, y < n) (hnx : ∀ x y, Ed nx x y → x < n) (hn : n ≤ 700) (hl : ∀ x, (nx x).length ≤ 300) :
    Calls Try.prog 55 #[.agg #[v1, v2]] w (GroPost w n nx) := by
  refine (callsIn_wide (n := 4)).1 ?_
  obtain ⟨W1, hW1⟩ : ∃ W1, W1 = w.alloc (.cells #[v1, v2] 53) := ⟨_, rfl⟩
  have b1 : Below w.heap.size w W1 := by rw [hW1]; exact below_new w _
  have o1 : W1.heap[w.heap.size]? = some (.cells #[v1, v2] 53 (0, 0)) := by rw [hW1]; exact heap_alloc_new w _
  have k0 : W1.cell? ⟨w.heap.size, 0, none⟩ = some v1 := by simp [World.cell?, o1]
  have k1 : W1.cell? ⟨w.heap.size, 1, none⟩ = some v2 := by simp [World.cell?, o1]
  have N1 := hide (hN.next b1)
  have R1 := hide (h.next b1)
  have C1 := hide (walk_any W1 (unhide N1) hNn (unhide R1) (by omega))
  obtain ⟨a1, c1, rfl, _⟩ := hN
  obtain ⟨G2', cap2, rfl⟩ := h.form
  rw [hNn] at k0 C1 N1 hW1 o1 ⊢
  rw [hW1] at k0 k1
  have qk : Hid (∀ W, Below W1.heap.size W1 W → W.heap[w.heap.size]? = some (.cells #[.slice a1 n c1, .slice (some ⟨G2', 0, none⟩) n cap2] 53 (0, 0)) ∧ W.cell? ⟨w.heap.size, 0, none⟩ = some (.slice a1 n c1) ∧ W.cell? ⟨w.heap.size, 1, none⟩ = some (.slice (some ⟨G2', 0, none⟩) n cap2)) := fun W hW => by
    have := (hW.block _ (heap_lt o1)).trans o1
    exact ⟨this, by simp [World.cell?, this], by simp [World.cell?, this]⟩
  replace b1 := hide b1
  replace hb := hide hb
  replace hl := hide hl
  replace hnx := hide hnx
  replace hNn := hide hNn
  replace o1 := hide o1
  clear h
  refine callsIn_of_wp_marks Try.func55 rfl trivial ?_ rfl
  simp only [Try.ntmps55, List.size_toArray, List.length_cons, List.length_nil, Nat.reduceAdd, Nat.reduceSub, Array.replicate_succ, Array.replicate_zero, List.push_toArray, List.append_toArray, List.nil_append, List.cons_append]
  gi_wp2_with (refine ⟨trivial, ?_⟩; gi_at_call 58; rw [← hW1]; refine (callsIn_wide.2 (unhide C1)).mono ?_; rintro e w2 ⟨b, gl, cl, ge, ce, rfl, K2⟩; have m0 := (fun o => (unhide qk _ (K2.low.trans ((below_new w2 o).mono K2.low.size))).2.1); replace K2 := hide K2)
  replace hW1 := hide hW1
  have K3 := hide ((unhide K2).next (below_new w2 (.cells #[.pointer (some ⟨b, 0, none⟩)] 72)))
  have A0 : Hid (G1 W1 b gl cl ge ce n nx w2.heap.size 0 (.slice none 0 0) nx (fun _ => false) (.slice none 0 0) [] (w2.alloc (.cells #[.pointer (some ⟨b, 0, none⟩)] 72))) :=
    ⟨unhide K3, fi_start nx, is_nil _ _, fun k e => (by cases e), fun x hx => (by cases hx), fun x hx => (by omega), heap_alloc_new w2 _⟩
  obtain ⟨W3, hW3⟩ : ∃ W3, W3 = w2.alloc (.cells #[.pointer (some ⟨b, 0, none⟩)] 72) := ⟨_, rfl⟩
  obtain ⟨kb, hkb⟩ : ∃ kb, kb = w2.heap.size := ⟨_, rfl⟩
  rw [← hW3, ← hkb] at A0
  rw [← hW3, ← hkb]
  replace hW3 := hide hW3
  replace hkb := hide hkb
  clear m0 k0 k1 K3 C1
  gi_loopw [3, 15] (fun s3 s15 wr => ∃ (t : Nat) (LF : Nat → List Nat) (En : Nat → Bool) (wv : Value) (O : List Nat), t ≤ n ∧ s15 = .int .i64 t ∧ Hid (G1 W1 b gl cl ge ce n nx kb t s3 LF En wv O wr)) (fun _ s15 _ => n - (intOf s15).toNat)
  case atStart => exact ⟨0, _, _, _, _, Nat.zero_le _, rfl, unhide A0⟩
  case round =>
    obtain ⟨t, LF, En, wv, O, ht, rfl, A1⟩ := hrel
    by_cases hlt : t < n
    · have C2 := hide (all_any wr (unhide A1).wk (unhide A1).fi hlt (unhide hb) (by omega) (fun x _ => by have := unhide hl x; omega))
      have ckb : wr.cell? ⟨kb, 0, none⟩ = some (.pointer (some ⟨b, 0, none⟩)) := by have := (unhide A1).kbx; simp [World.cell?, this]
      gi_wp2_with (first | (refine ⟨trivial, ?_⟩; gi_at_call 76; refine (callsIn_wide.2 (unhide C2)).mono ?_; rintro e w4 hp; obtain ⟨ov2, out, rfl, i2, i3, s3, l3, n3, F⟩ := (unhide A1).step hp; clear hp; have hfew : Hid ((ci O).length + (ci out).length ≤ 100000000) := (few_two hn (unhide A1).lt l3 n3); replace i2 := hide i2; replace i3 := hide i3; replace s3 := hide s3; replace F := hide F; replace n3 := hide n3; replace l3 := hide l3) | (gi_at_builtin; refine wpListIn_app _ rfl (.tmp 18) (.tmp 21) rfl _ _ (ci O) (ci out) rfl rfl (unhide i3) (unhide i2) (unhide s3) (unhide hfew) ?_; intro v5 w5 j1 j2 j3; have f1 := unhide F v5 w5 j1 j2 j3; replace f1 := hide f1; clear j1 j2 j3) | gi_in)
      go_roundw
      case rel =>
        obtain ⟨LF', En', wv', f2⟩ := unhide f1
        exact ⟨t + 1, _, _, _, _, by omega, by go_num, f2⟩
      case measure => simp [intOf]; omega
    · obtain rfl : t = n := by omega
      obtain ⟨a3, c3, e3⟩ := (unhide A1).is.form
      obtain ⟨m, hm⟩ : ∃ m, m = (ci O).length := ⟨_, rfl⟩
      rw [← hm] at e3
      subst e3
      replace hm := hide hm
      have low4 := (unhide A1).wk.low
      have bn := below_new wr (.cells #[.slice none 0 0] 51)
      have low5 := low4.trans (bn.mono low4.size)
      obtain ⟨_, q1, q2⟩ := unhide qk _ low5
      have N5 := (unhide N1).next low5
      have R5 := (unhide R1).next low5
      have C5 := turned_any (wr.alloc (.cells #[.slice none 0 0] 51)) N5 (by rw [unhide hNn]; exact R5) (by rw [unhide hNn]; exact hn) (by rw [unhide hNn]; exact unhide hb) (unhide hl)
      rw [unhide hNn] at C5
      replace C5 := hide C5
      have kb5 := hide ((bn.block _ (heap_lt (unhide A1).kbx)).trans (unhide A1).kbx)
      replace low4 := hide low4
      replace low5 := hide low5
      replace N5 := hide N5
      replace R5 := hide R5
      clear bn
      gi_wp2_with (first | (refine ⟨trivial, ?_⟩; gi_at_call 77; refine (callsIn_wide.2 (unhide C5)).mono ?_; rintro e w6 ⟨v3, tx, rfl, r6, x6, y6, b6⟩; have K6 := walk_any w6 ((unhide N5).next b6) (unhide hNn) r6 (by omega); replace K6 := hide K6; replace r6 := hide r6; replace x6 := hide x6; replace y6 := hide y6; replace b6 := hide b6) | (refine ⟨trivial, ?_⟩; gi_at_call 58; refine (callsIn_wide.2 (unhide K6)).mono ?_; rintro e w7 ⟨b', gl', cl', ge', ce', rfl, K7⟩; have kb6 := ((unhide b6).block _ (heap_lt (unhide kb5))).trans (unhide kb5); have kb7 := (K7.low.block _ (heap_lt kb6)).trans kb6; have ckb : w7.cell? ⟨kb, 0, none⟩ = some (.pointer (some ⟨b, 0, none⟩)) := (by simp [World.cell?, kb7]); have zkb : w7.frozen? ⟨kb, 0, none⟩ = false := (by simp [World.frozen?, kb7]); replace kb6 := hide kb6; replace kb7 := hide kb7; replace K7 := hide K7) | (refine ⟨trivial, ?_⟩; gi_at_call 78; refine (back_in Fence.wide (4 - 1) trivial rfl _ _ _ _).mono ?_; rintro e w8 ⟨rfl, rfl⟩) | gi_in)
      clear q1 q2 ckb zkb C5 K6
      have A2 := unhide A1
      have KK0 := (unhide K7).rebase (unhide kb6) (unhide kb7) (fun i e => by cases e) (by decide) (by decide) (by decide) (by decide) (.pointer (some ⟨b', 0, none⟩))
      obtain ⟨W8, hW8⟩ : ∃ W8, W8 = ((w7.setCell ⟨kb, 0, none⟩ (.pointer (some ⟨b', 0, none⟩))).alloc (.cells #[.slice a3 m c3] 23)) := ⟨_, rfl⟩
      have bn8 := below_new (w7.setCell ⟨kb, 0, none⟩ (.pointer (some ⟨b', 0, none⟩))) (.cells #[.slice a3 m c3] 23)
      rw [← hW8] at bn8
      have hkbw : w.heap.size ≤ kb := by
        rw [unhide hkb]
        exact Nat.le_trans (unhide b1).size (unhide K2).low.size
      have z7 : (w7.setCell ⟨kb, 0, none⟩ (.pointer (some ⟨b', 0, none⟩))).heap.size = w7.heap.size := size_set _ _ _
      have z8 : W8.heap.size = w7.heap.size + 1 := by rw [hW8, World.size_alloc, z7]
      have zr : (wr.alloc (.cells #[.slice none 0 0] 51)).heap.size = wr.heap.size + 1 := by simp
      have z67 := (unhide K7).low.size
      have zr6 := (unhide b6).size
      have zw : w.heap.size ≤ wr.heap.size := Nat.le_trans (unhide b1).size (unhide low4).size
      have ob6 := ((unhide b6).block _ (by rw [zr]; omega)).trans (heap_alloc_new wr (.cells #[.slice none 0 0] 51))
      have ob7 := ((unhide K7).low.block _ (heap_lt ob6)).trans ob6
      have nkb : wr.heap.size ≠ kb := fun e => by
        have := unhide kb7
        rw [← e, ob7] at this
        cases this
      have ob8 := (bn8.block _ (by rw [z7]; exact heap_lt ob7)).trans ((heap_set_other 0 (.pointer (some ⟨b', 0, none⟩)) nkb).trans ob7)
      have kb8 := (bn8.block kb (by rw [z7]; exact heap_lt (unhide kb7))).trans (heap_set_same (.pointer (some ⟨b', 0, none⟩)) (unhide kb7))
      have i7 : Is w.heap.size (.slice a3 m c3) (ci O) w7 := ((((A2.is.next (below_new wr (.cells #[.slice none 0 0] 51))).next (unhide b6)).next (unhide K7).low).down (unhide b1).size)
      have i8 : Is w.heap.size (.slice a3 m c3) (ci O) W8 := (i7.off (unhide kb7) (by decide) 0 _).next bn8
      have low8 : Below w.heap.size w W8 := by
        have l1 : Below w.heap.size w (wr.alloc (.cells #[.slice none 0 0] 51)) := (unhide b1).trans ((unhide low5).mono (unhide b1).size)
        have l2 : Below w.heap.size w w6 := l1.trans ((unhide b6).mono l1.size)
        have l3 : Below w.heap.size w w7 := l2.trans ((unhide K7).low.mono l2.size)
        have l4 := l3.setCell (p := ⟨kb, 0, none⟩) hkbw (.pointer (some ⟨b', 0, none⟩))
        exact l4.trans (bn8.mono l4.size)
      have glt : gl' < w7.heap.size := heap_lt (unhide K7).lft.choose_spec.1
      have bs8 : W8.heap[w7.heap.size]? = some (.cells #[.slice a3 m c3] 23 (0, 0)) := by
        have := heap_alloc_new (w7.setCell ⟨kb, 0, none⟩ (.pointer (some ⟨b', 0, none⟩))) (.cells #[.slice a3 m c3] 23)
        rw [z7] at this
        rw [hW8]
        exact this
      have hOl : O.length = t := by
        have h1 := nd_le t O A2.fi.nd A2.lt
        have h2 := nd_le' t O (fun x hx => A2.up x hx)
        omega
      have hS : (w6.setCell ⟨kb, 0, none⟩ (.pointer (some ⟨b', 0, none⟩))).heap.size = w6.heap.size := size_set _ _ _
      have I0 : Gi w w6.heap.size b' gl' cl' ge' ce' t nx tx kb wr.heap.size w7.heap.size (.slice a3 m c3) O W8.heap.size O.length (ci O).length [] W8 :=
        ⟨_, tx, _, _, [], [], .slice none 0 0, [], hS, ⟨KK0.next bn8, fi_start tx, kb8, ob8, ⟨rfl, .inl ⟨rfl, rfl⟩⟩, rfl, fun i hi => (by cases hi), i8, fun k e => (by cases e), by omega, low8, Nat.le_refl _, fun x hx => (by cases hx), fun x hx => (by cases hx), ⟨bs8, by omega, by omega⟩, ⟨zw, by rw [hS]; omega, by rw [hS]; omega⟩, low8.size, Nat.le_refl _, fun _ => ⟨gs_nil nx, fun x hx => (by cases hx)⟩⟩⟩
      obtain ⟨M, hM⟩ : ∃ M, M = W8.heap.size := ⟨_, rfl⟩
      obtain ⟨ob, hob⟩ : ∃ ob, ob = wr.heap.size := ⟨_, rfl⟩
      obtain ⟨Bs, hBs⟩ : ∃ Bs, Bs = w7.heap.size := ⟨_, rfl⟩
      obtain ⟨S, hSS⟩ : ∃ S, S = w6.heap.size := ⟨_, rfl⟩
      have hgoE : ∃ go, go < W8.heap.size ∧ (0 < O.length → (Value.slice a3 m c3).ownBlock = some go) ∧ ∀ a m' c, Value.slice a3 m c3 = .slice (some a) m' c → a.block = go := by
        cases a3 with
        | none =>
          refine ⟨0, by omega, fun h => ?_, fun a m' c e => by cases e⟩
          rcases i8.2 with ⟨_, e⟩ | ⟨g, cap, cur, e, _⟩
          · rw [ci_len] at e; omega
          · cases e
        | some a => exact ⟨a.block, (i8.lt a.block rfl).2, fun _ => rfl, fun a' m' c e => by cases e; rfl⟩
      obtain ⟨go, hgo1, hgo2, hgo3⟩ := hgoE
      have hst := back_stops Fence.wide (4 - 1) trivial rfl (by omega) Bs go (v := .slice a3 m c3) (L := ci O) (by rw [ci_len]; omega) W8 i8.rd hgo3 hgo1 (by rw [hBs]; exact bs8)
      rw [← hW8, ← hob]
      rw [← hM, ← hob, ← hBs, ← hSS] at I0
      have hSM : S ≤ W8.heap.size := by omega
      have hwW : w.heap.size ≤ W8.heap.size := low8.size
      have hBsM : Bs < W8.heap.size := by omega
      have fiA := A2.fi
      have ltA := A2.lt
      have upA := A2.up
      have htx : ∀ x y, Ed tx x y ↔ Ed nx y x := fun x y => by
        have h1 := unhide x6 y x
        unfold Ed
        rw [h1]
        exact ⟨fun h => h.2, fun h => ⟨unhide hnx y x h, h⟩⟩
      have htb : ∀ x, x < t → ∀ y ∈ tx x, y < t := fun x _ y hy => ((unhide x6 y x).1 hy).1
      have htl : ∀ x, x < t → (tx x).length < 1000000 := fun x _ => unhide y6 x
      replace hM := hide hM
      replace hob := hide hob
      replace hBs := hide hBs
      replace hSS := hide hSS
      replace hW8 := hide hW8
      clear i8 i7 low8 bs8 kb8 ob8 ob7 ob6 KK0 bn8 A2 z7 z8 zr z67 zr6 zw nkb glt hkbw
      rw [← unhide hBs]
      refine wpIn_rangeFunc_ownH (α := { x : Nat // x < (ci O).length }) rfl (by omega) (gf := 95) (lb := #[.pointer (some ⟨Bs, 0, none⟩)]) rfl trivial (enters_of Try.func95 (by kernel_rfl) rfl)
        hst ko_t (fun W l o o' hl1 h1 h2 _ => ?ko) (Below.refl _ _) (fun _ => rfl)
        (Gi w S b' gl' cl' ge' ce' t nx tx kb ob Bs (.slice a3 m c3) O M O.length (ci O).length) (fun _ _ _ => False) (gi_own hwW hSM) (fun _ _ _ _ _ hs _ _ => hs) I0
        (fun x a' _ => Axg kb ob ((ci O).getD x.1 0) a') (fun x a' _ W W' row hs hg hr => hs) ?assign ?body ?done ?stop
      case ko => exact ⟨World.putObj_heap_other (by omega), World.putObj_heap_other (by omega)⟩
      case assign =>
        rintro l pre x W K hI hK
        gi_wp2
        exact hK _ _ (KeepsOthers.refl _ |>.from _) ⟨rfl, rfl⟩ hI ⟨_, _, _, _, _, _, _, _, _, _, _, _, _, _, _, _, _, _, _, _, _, _, _, _, _, _, _, _, _, _, _, _, _, _, _, _, _, _, _, rfl⟩
      case body =>
        rintro l pre ⟨x, hx⟩ a' W hl hrec ⟨W0, LF', En', wv', O', G, outv, gs, hS0, H⟩ hAx hlt
        obtain ⟨u0, u1, u2, u3, u5, u7, u9, u10, u11, u12, u13, u14, u15, u16, u17, u18, u19, u20, u21, u22, u23, u24, u25, u26, u27, u28, u29, u30, u31, u32, u33, u34, u35, u36, u37, u38, u39, u40, u41, rfl⟩ := hAx
        have hxO : x < O.length := by rw [ci_len] at hx; exact hx
        obtain ⟨p0, hp0⟩ : ∃ p0, p0 = O.getD x 0 := ⟨_, rfl⟩
        have ep : (ci O).getD x 0 = (p0 : Int) := by rw [ci_at, hp0]
        have hp : p0 < t := by rw [hp0]; exact ltA _ (at_mem_nat hxO)
        have C := hide (all_any W H.wk H.fi hp htb (by omega) htl)
        have ckb : W.cell? ⟨kb, 0, none⟩ = some (.pointer (some ⟨b', 0, none⟩)) := by have := H.kbx; simp [World.cell?, this]
        have emap : (pre ++ [(⟨x, hx⟩ : { x : Nat // x < (ci O).length })]).map (·.1) = pre.map (·.1) ++ [x] := by rw [List.map_append]; rfl
        have ST := hide (fun (e : Ending) (w5 : World) (q : AllPost W0 b' gl' cl' ge' ce' t tx p0 O' wv' W e w5) => H.step htx fiA.kk fiA.nd fiA.don (fun x y e => upA x (unhide hnx x y e)) rfl hxO (hgo2 (by omega)) (e := e) (w1 := w5) (by rw [← hp0]; exact q))
        rw [← hp0] at ST
        replace hp0 := hide hp0
        replace emap := hide emap
        replace H := hide H
        dsimp only
        rw [ep]
        clear ep hrec
        by_cases hpO : p0 ∈ O'
        · gi_wp2_with (refine ⟨trivial, ?_⟩; gi_at_call 76; refine (CallsIn.inRound l (callsIn_wide.2 (unhide C))).mono ?_; rintro e w5 hp5; obtain ⟨ov2, out, rfl, ⟨a, c, rfl⟩, hol, hio, kot, ko, FA, _⟩ := unhide ST e w5 hp5; have hout := hio.1 hpO; have f1 := FA hout; have hlen : out.length = 0 := (by rw [hout]; rfl); rw [hlen]; clear hp5 FA hio hlen; replace hout := hide hout; replace kot := hide kot; replace ko := hide ko; replace f1 := hide f1)
          refine ⟨(unhide kot).from _, unhide ko, ?_⟩
          obtain ⟨LF2, En2, wv2, q⟩ := unhide f1
          exact ⟨W0, LF2, En2, wv2, O', G, outv, gs, hS0, by rw [unhide emap]; exact q⟩
        · have hgs : gs.length ≤ 700 := by
            have h1 := (unhide H).len
            have h2 := (unhide H).few
            have h3 := nd_le t O' (unhide H).fi.nd (unhide H).ltn
            omega
          obtain ⟨i0, hi, hz0, hz1, hz2⟩ := info_parts zero23
          have Hi := hide (And.intro hi (And.intro hz0 (And.intro hz1 hz2)))
          clear hi hz0 hz1 hz2
          obtain ⟨ng, hng⟩ : ∃ ng, ng = gs.length := ⟨_, rfl⟩
          have hng9 : ng ≤ 700 := by omega
          replace hng := hide hng
          clear hgs
          gi_wp2_with (first | (refine ⟨trivial, ?_⟩; gi_at_call 76; refine (CallsIn.inRound l (callsIn_wide.2 (unhide C))).mono ?_; rintro e w5 hp5; obtain ⟨ov2, out, rfl, ⟨a, c, hov⟩, hol, hio, kot, ko, hFA, FB⟩ := unhide ST e w5 hp5; have hne : out ≠ [] := (fun e => hpO (hio.2 e)); obtain ⟨vr5, ob5, hM5, one5, F⟩ := FB hne; obtain ⟨k0, hk0⟩ : ∃ k0, k0 = out.length := ⟨_, rfl⟩; have hk1 : 0 < k0 := (by rw [hk0]; exact List.length_pos_iff.2 hne); rw [← hk0] at hov; subst hov; have cob : w5.cell? ⟨ob, 0, none⟩ = some outv := (by simp [World.cell?, ob5]); have cob2 := (fun o => ((below_new w5 o).cell (p := ⟨ob, 0, none⟩) (heap_lt ob5)).trans cob); have vr6 : Hid ((w5.alloc (.cells #[.slice a k0 c] 23)).ownsRow M 23 1 outv ng gs) := (by show World.ownsRow _ _ _ _ _ _ _; rw [unhide hng]; exact vr5.keep (fun g hg => (below_new w5 _).block g (vr5.lt g hg).2)); have hM6 : Hid (M ≤ (w5.alloc (.cells #[.slice a k0 c] 23)).heap.size) := (Nat.le_trans hM5 (below_new w5 _).size); clear hp5 hFA FB hio hne vr5 hM5; replace hk0 := hide hk0; replace kot := hide kot; replace ko := hide ko; replace F := hide F; replace ob5 := hide ob5; replace one5 := hide one5) | (gi_at_builtin; refine wpListIn_append_own _ rfl (.tmp 37) (.tmp 39) 51 rfl M 23 i0 _ 1 24 Try.underlying51 (unhide Hi).1 (unhide Hi).2.1 (unhide Hi).2.2.1 (unhide Hi).2.2.2 rfl (by decide) _ ng gs rfl (unhide vr6) ⟨w5.heap.size, 0, none⟩ 1 1 [.slice a k0 c] rfl rfl (World.news_of_block (heap_alloc_new w5 _)) (fun u hu => by rw [List.mem_singleton.1 hu]; exact unhide one5) (by unfold maxLen; omega) (by omega) (unhide hM6) ?_; intro v' w6 a1 a2 _; obtain ⟨ob6, kot6, ko6, f6⟩ := unhide F v' w6 (by unfold Vr; rw [List.length_append, ← unhide hng]; exact a1) (grown_trans (grown_of_below (below_new w5 _) _) a2); have d6 : w6.cell? ⟨ob, 0, none⟩ = some outv := (by simp [World.cell?, ob6]); have z6 : w6.frozen? ⟨ob, 0, none⟩ = false := (by simp [World.frozen?, ob6]); obtain ⟨a7, n7, c7, hv7⟩ : ∃ a n c, v' = Value.slice a n c := (by rcases a1.2 with ⟨e, _⟩ | ⟨g, cap, cur, e, _⟩; exact ⟨_, _, _, e⟩; exact ⟨_, _, _, e⟩); subst hv7; clear a1 a2; replace ob6 := hide ob6; replace kot6 := hide kot6; replace ko6 := hide ko6; replace f6 := hide f6) | gi_in)
          refine ⟨(unhide kot6).from _, unhide ko6, ?_⟩
          obtain ⟨W0', LF2, En2, wv2, hS2, q⟩ := unhide f6
          exact ⟨W0', LF2, En2, wv2, _, _, _, _, hS2.trans hS0, by rw [unhide emap]; exact q⟩
      case done =>
        rintro D ys W hD hys ⟨W0, LF', En', wv', O', G, outv, gs, hS0, H⟩ hK
        have cob : W.cell? ⟨ob, 0, none⟩ = some outv := by have := H.obx; simp [World.cell?, this]
        have hcz := cz_own (B := 0) (grownBy_putObj' W D (.deferred none)) (fun r e => by cases e; exact ⟨Nat.zero_le _, _, hK, rfl⟩)
        have hlw : Below w.heap.size w (W.putObj D (.deferred none)) := H.low.trans (belowK_b (w := w) (Nat.le_refl _) W D _ _ (by omega) hK rfl rfl)
        have H2 := H
        replace H := hide H
        replace hcz := hide hcz
        replace hlw := hide hlw
        replace hys := hide hys
        obtain ⟨ao, co, hvo⟩ : ∃ a c, outv = Value.slice a gs.length c := by
          rcases H2.vr.2 with ⟨e, e0⟩ | ⟨g, cap, cur, e, _⟩
          · exact ⟨none, 0, by rw [e, e0]⟩
          · exact ⟨_, _, e⟩
        clear H2
        obtain ⟨ng, hng⟩ : ∃ ng, ng = gs.length := ⟨_, rfl⟩
        rw [← hng] at hvo
        subst hvo
        replace hng := hide hng
        gi_wp2
        refine ⟨by simp, .inl ⟨_, _, rfl, run_takeDeferred hK, ?_⟩⟩
        have hh := unhide H
        obtain ⟨g1, g2⟩ := hh.ok ⟨0, Nat.zero_le _, by rw [unhide hys, ci_len]⟩
        refine ⟨_, results_tmp rfl _ _ _, .slice ao ng co, G, rfl, ⟨ao, co, by rw [← hh.len, ← unhide hng], fun i hi => ?_⟩, g1.grp, fun x hx => ?_, hh.gln, ?_, unhide hlw⟩
        · have vz := hh.vr.cz (unhide hcz)
          have hi2 : i < gs.length := by rw [hh.len]; exact hi
          obtain ⟨r1, _⟩ := hh.row i hi2
          rcases vz.2 with ⟨_, e0⟩ | ⟨g, cap, cur, e, _, hg, h3, h4, h5, h6⟩
          · omega
          · injection e with e1 e2 e3
            refine ⟨g, e1, gs.getD i undef, ?_, (r1.cz (unhide hcz)).rc⟩
            have h7 : (cur.toList.take (gs.length * 1))[i]? = gs[i]? := by rw [h6]
            rw [List.getElem?_take_of_lt (by omega)] at h7
            have h8 : gs[i]? = some (gs.getD i undef) := by simp [List.getD, hi2]
            simp only [World.cell?, hg]
            rw [← h8, ← h7]
            simp
        · obtain ⟨j, hj, e⟩ : ∃ j, j < O.length ∧ O.getD j 0 = x := by
            obtain ⟨j, hj, e⟩ := List.getElem_of_mem (upA x hx)
            exact ⟨j, hj, by simp [List.getD, hj, e]⟩
          refine g1.all x ?_
          rw [← e]
          refine g2 j ?_
          rw [unhide hys, ci_len, dn_mem (Nat.zero_le _)]
          omega
        · have h3 := nd_le t O' hh.fi.nd hh.ltn
          have := hh.few
          omega
      case stop =>
        rintro D c pre W hD _ h _
        exact h.elim
end Go.Proofs.Ytjgepcifknmdhaa

/- A region that draws its order, whose callees make memory but turn nothing that lies: one walk in the order of the text, over the class of the worlds behind w0 in which S holds. -/
namespace Go.Proofs.Ytjgepcifknmdhaa
open Go.RowKit

/-- The worlds behind w0 in which S holds. -/
structure Wc (S : World → Prop) (w0 : World) where
  w : World
  ok : S w
  bel : Below w0.heap.size w0 w
theorem Wc.call {S : World → Prop} {w0 : World} (hs : ∀ w w', S w → Below w.heap.size w w' → S w') {x : Wc S w0} {f : FuncId} {args : Array Value} {v : Value}
    (h : Calls Try.prog f args x.w fun e w' => e = .returned v ∧ Below x.w.heap.size x.w w') : Calls Try.prog f args x.w fun e w'' => e = .returned v ∧ ∃ y : Wc S w0, w'' = y.w :=
  h.mono fun _ w' ⟨he, hb⟩ => ⟨he, ⟨w', hs _ _ x.ok hb, below_then x.bel hb⟩, rfl⟩
theorem wp_region_wc {S : World → Prop} {w0 : World} {id : Nat} {Q : Exit → Act → World → Prop} {a : Act} {w : World} {l : List Oper} (hx : S w.drew) (hl : Below w0.heap.size w0 w) (hm : Try.prog.follows .mixedOrders = true) (hB : Region.lexB .any l.toArray = true)
    (h : wpQuiet Try.prog l.toArray (fun w' => ∃ x : Wc S w0, w' = x.w) (fun a' => ∀ w', (∃ x : Wc S w0, w' = x.w) → Q .normal a' w') l a) : (Code.region id l.toArray true).wp Try.prog Q a w :=
  wp_region_quiet (C := fun w' => ∃ x : Wc S w0, w' = x.w) hm hB ⟨⟨w.drew, hx, hl.drew⟩, rfl⟩ (by simpa using h)
end Go.Proofs.Ytjgepcifknmdhaa

/- lowestOn. -/
namespace Go.Proofs.Ytjgepcifknmdhaa
open Go.RowKit

theorem Gr.next {w w' : World} {v : Value} {G : List (List Nat)} (h : Gr w v G) (k : Below w.heap.size w w') : Gr w' v G := by
  obtain ⟨a, c, e, h1⟩ := h
  refine ⟨a, c, e, fun i hi => ?_⟩
  obtain ⟨g, e1, x, e2, e3⟩ := h1 i hi
  exact ⟨g, e1, x, (k.cell (p := ⟨g, i, none⟩) (World.block_lt_of_cell? _ _ e2)).trans e2, e3.next k⟩
/-- Of the first i groups: f is the lowest that is on a circle; n, if none is. -/
def Lw (nx : Nat → List Nat) (n : Nat) (G : List (List Nat)) (i f : Nat) : Prop := f ≤ n ∧ (f < n → On (Ed nx) f) ∧ ∀ k, k < i → ∀ x ∈ G.getD k [], On (Ed nx) x → f ≤ x
theorem lw_no {nx : Nat → List Nat} {n i f : Nat} {G : List (List Nat)} (h : Lw nx n G i f) (hg : ∀ x ∈ G.getD i [], ¬ On (Ed nx) x) : Lw nx n G (i + 1) f :=
  ⟨h.1, h.2.1, fun k hk x hx ho => by
    rcases (show k < i ∨ k = i by omega) with q | q
    · exact h.2.2 k q x hx ho
    · subst q; exact absurd ho (hg x hx)⟩
theorem lw_yes {nx : Nat → List Nat} {n i f m : Nat} {G : List (List Nat)} (h : Lw nx n G i f) (hn : ∀ x ∈ G.getD i [], x < n) (hm : m ∈ G.getD i []) (hmin : ∀ x ∈ G.getD i [], m ≤ x) (ho : ∀ x ∈ G.getD i [], On (Ed nx) x) : Lw nx n G (i + 1) (min f m) := by
  have h1 := hn m hm
  refine ⟨by have := h.1; omega, fun _ => ?_, fun k hk x hx hox => ?_⟩
  · rcases Nat.le_total f m with q | q
    · rw [Nat.min_eq_left q]
      exact h.2.1 (by omega)
    · rw [Nat.min_eq_right q]
      exact ho m hm
  · rcases (show k < i ∨ k = i by omega) with q | q
    · have := h.2.2 k q x hx hox; omega
    · subst q; have := hmin x hx; omega
/-- What lowestOn answers. -/
def LowPost (w : World) (n : Nat) (nx : Nat → List Nat) (e : Ending) (w' : World) : Prop :=
  ∃ f : Nat, e = .returned (.tuple #[.int .i64 f, .bool (decide (f < n))]) ∧ (f < n → On (Ed nx) f ∧ ∀ x, On (Ed nx) x → f ≤ x) ∧ (¬ f < n → ∀ x, ¬ On (Ed nx) x) ∧ Below w.heap.size w w'
set_option maxRecDepth 100000 in
set_option maxHeartbeats 4000000 in
theorem low_any (w : World) {v1 v2 : Value} {N : List Int} {n : Nat} {nx : Nat → List Nat} (hN : Rd w v1 N) (hNn : N.length = n) (h : Rws w v2 n nx) (hb : ∀ x, x < n → ∀ y ∈ nx x, y < n) (hnx : ∀ x y, Ed nx x y → x < n) (hn : n ≤ 700) (hl : ∀ x, (nx x).length ≤ 300) :
    Calls Try.prog 37 #[.agg #[v1, v2]] w (LowPost w n nx) := by
  obtain ⟨W1, hW1⟩ : ∃ W1, W1 = w.alloc (.cells #[v1, v2] 53) := ⟨_, rfl⟩
  have b1 : Below w.heap.size w W1 := by rw [hW1]; exact below_new w _
  have o1 : W1.heap[w.heap.size]? = some (.cells #[v1, v2] 53 (0, 0)) := by rw [hW1]; exact heap_alloc_new w _
  have k0 : W1.cell? ⟨w.heap.size, 0, none⟩ = some v1 := by simp [World.cell?, o1]
  have k1 : W1.cell? ⟨w.heap.size, 1, none⟩ = some v2 := by simp [World.cell?, o1]
  have R1 := h.next b1
  have C1 := hide (groups_any W1 (hN.next b1) hNn R1 hb hnx hn hl)
  replace R1 := hide R1
  obtain ⟨a1, c1, rfl, _⟩ := hN
  obtain ⟨G2', cap2, rfl⟩ := h.form
  rw [hNn] at k0 C1 hW1 o1 ⊢
  have qk : Hid (∀ W, Below W1.heap.size W1 W → W.cell? ⟨w.heap.size, 0, none⟩ = some (.slice a1 n c1) ∧ W.cell? ⟨w.heap.size, 1, none⟩ = some (.slice (some ⟨G2', 0, none⟩) n cap2)) := fun W hW => by
    have := (hW.block _ (heap_lt o1)).trans o1
    exact ⟨by simp [World.cell?, this], by simp [World.cell?, this]⟩
  rw [hW1] at k0 k1
  replace b1 := hide b1
  replace hb := hide hb
  replace hl := hide hl
  replace hnx := hide hnx
  replace hNn := hide hNn
  clear h o1
  go_enter Try.func37, Try.ntmps37
  go_wp2_with fail
  rw [← hW1] at k0 k1 ⊢
  replace hW1 := hide hW1
  refine (unhide C1).mono ?_
  rintro e w2 ⟨ov, G, rfl, hG, hgrp, hall, hgn, hGl, b2⟩
  obtain ⟨ag, cg, rfl, _⟩ := id hG
  obtain ⟨ng, hng⟩ : ∃ ng, ng = G.length := ⟨_, rfl⟩
  rw [← hng] at hG ⊢
  have hng9 : ng ≤ 700 := by omega
  replace hG := hide hG
  replace hgrp := hide hgrp
  replace hall := hide hall
  replace hgn := hide hgn
  replace hng := hide hng
  replace b2 := hide b2
  clear k0 k1 hGl
  go_wp2
  go_loopw [4, 13] (fun s4 s13 wr => ∃ (i f : Nat), i ≤ ng ∧ s4 = .int .i64 f ∧ s13 = .int .i64 i ∧ Hid (Lw nx n G i f) ∧ Hid (Below w2.heap.size w2 wr)) (fun _ s13 _ => ng - (intOf s13).toNat)
  case atStart => exact ⟨0, n, Nat.zero_le _, rfl, rfl, ⟨Nat.le_refl _, fun h => by omega, fun k hk => by omega⟩, Below.refl _ _⟩
  case round =>
    obtain ⟨i, f, hi, rfl, rfl, L1, b3⟩ := hrel
    obtain ⟨qc0, qc1⟩ := unhide qk wr ((unhide b2).trans ((unhide b3).mono (unhide b2).size))
    by_cases hlt : i < ng
    · have hiG : i < G.length := by rw [← unhide hng]; exact hlt
      obtain ⟨ag', cg', eg, hGr⟩ := (unhide hG).next (unhide b3)
      have eg1 : ag = ag' := by injection eg
      clear eg
      subst eg1
      obtain ⟨g0, rfl, x, d1, rc⟩ := hGr i hiG
      obtain ⟨gl, hgl⟩ : ∃ gl, gl = G.getD i [] := ⟨_, rfl⟩
      rw [← hgl] at rc
      have hglm : gl ∈ G := by
        rw [hgl, show G.getD i [] = G[i] by simp [List.getD, hiG]]
        exact List.getElem_mem hiG
      obtain ⟨gne, gltn⟩ := unhide hgn gl hglm
      have hon := group_on (unhide hgrp gl hglm)
      obtain ⟨ax, cx, rfl, sx, _⟩ := rc
      obtain ⟨k, hk⟩ : ∃ k, k = (ci gl).length := ⟨_, rfl⟩
      have hkg : k = gl.length := by rw [hk, ci_len]
      have hk0 : 0 < k := by rw [hkg]; exact List.length_pos_iff.2 gne
      have hk9 : k ≤ 700 := by rw [hkg]; exact Nat.le_trans (nd_le n gl (unhide hgrp gl hglm).1 gltn) hn
      obtain ⟨gx, ox, rfl, e0⟩ := seg_at sx (i := 0) (by omega)
      rw [Nat.add_zero, ci_at] at e0
      rw [← hk] at d1 sx
      obtain ⟨y, hy⟩ : ∃ y, y = gl.getD 0 0 := ⟨_, rfl⟩
      rw [← hy] at e0
      have hyn : y < n := by rw [hy]; exact gltn _ (at_mem_nat (by omega))
      obtain ⟨xv, dX, rX⟩ := (unhide R1).at hyn
      obtain ⟨aX, cX, rfl, sX, hcX, _⟩ := rX
      have b4 := (unhide b2).trans ((unhide b3).mono (unhide b2).size)
      have dX2 := (b4.cell (p := ⟨G2', y, none⟩) (World.block_lt_of_cell? _ _ dX)).trans dX
      have sX2 : SegK .i64 wr aX (ci (nx y)).length (ci (nx y)) := sX.later b4
      have hRd : Hid (Rd wr (.slice (some ⟨gx, ox, none⟩) k cx) (ci gl)) := ⟨_, cx, by rw [hk], by rw [← hk]; exact sx⟩
      obtain ⟨kx, hkx⟩ : ∃ kx, kx = (ci (nx y)).length := ⟨_, rfl⟩
      have hkx9 : kx ≤ maxLen := by rw [hkx, ci_len]; have := unhide hl y; unfold maxLen; omega
      rw [← hkx] at dX2 sX2
      have key : ∀ q, q ∈ ci gl ↔ ∃ z ∈ gl, (z : Int) = q := fun q => by unfold ci; rw [List.mem_map]
      have mn : Hid (∀ (m : Int) (w' : World), (m ∈ ci gl ∧ ∀ x ∈ ci gl, m ≤ x) → ∃ z : Nat, m = (z : Int) ∧ z ∈ gl ∧ ∀ x ∈ gl, z ≤ x) := fun m _ hm => by
        obtain ⟨z, hz, e⟩ := (key m).1 hm.1
        refine ⟨z, e.symm, hz, fun x hx => ?_⟩
        have := hm.2 x ((key _).2 ⟨x, hx, rfl⟩)
        omega
      have hlen2 : (ci gl).length < 1000000 := by omega
      have hlen3 : 0 < (ci gl).length := by omega
      replace hkx := hide hkx
      replace hk := hide hk
      replace sX2 := hide sX2
      by_cases hg1 : 1 < gl.length
      · have onA : Hid (∀ x ∈ G.getD i [], On (Ed nx) x) := by rw [← hgl]; exact fun x hx => (hon x hx).2 (.inl hg1)
        have hk1 : (1 : Int) < (k : Int) := by omega
        have hne : Nonempty (Wc (fun W => Below wr.heap.size wr W) wr) := ⟨⟨_, Below.refl _ _, Below.refl _ _⟩⟩
        have hDD : Below wr.heap.size wr wr.drew := ⟨rfl, rfl, rfl, Nat.le_refl _, fun _ _ => rfl⟩
        replace hgl := hide hgl
        replace hy := hide hy
        replace b4 := hide b4
        replace hkg := hide hkg
        clear e0 sx hg1 hon dX2 key sX
        go_wp2_with fail
        refine wp_region_wc (S := fun W => Below wr.heap.size wr W) hDD (Below.refl _ _) (by kernel_rfl) (by kernel_rfl) ?_
        try simp only [List.append]
        repeat (go_big_quiet_step (fail))
        refine wpQuiet_nil ?_
        intro w6 hw'
        have b6 : Hid (Below wr.heap.size wr w6) := by
          obtain ⟨x, hx⟩ := hw'
          rw [hx]
          exact x.bel
        clear hw' hne hDD
        go_wp2_with fail
        refine (min_any w6 ((unhide hRd).next (unhide b6)) hlen3 hlen2).mono ?_
        rintro e w7 ⟨m, rfl, hm, rfl⟩
        obtain ⟨z, rfl, hz, hzm⟩ := unhide mn m w7 (unhide hm)
        have L2 := hide (lw_yes (unhide L1) (by rw [← unhide hgl]; exact gltn) (by rw [← unhide hgl]; exact hz) (by rw [← unhide hgl]; exact hzm) (unhide onA))
        have b7 := hide ((unhide b3).trans ((unhide b6).mono (unhide b3).size))
        clear hm hz hzm
        by_cases hfz : f ≤ z
        · have e1 : min (f : Int) (z : Int) = (f : Int) := by omega
          have e2 : Hid (min f z = f) := by show _ = _; omega
          rw [unhide e2] at L2
          go_wp2
          go_roundw
          case rel => exact ⟨i + 1, f, by omega, by first | rfl | (simp [e1]), by go_num, unhide L2, unhide b7⟩
          case measure => simp [intOf]; omega
        · have e1 : min (f : Int) (z : Int) = (z : Int) := by omega
          have e2 : Hid (min f z = z) := by show _ = _; omega
          rw [unhide e2] at L2
          go_wp2
          go_roundw
          case rel => exact ⟨i + 1, z, by omega, by first | rfl | (simp [e1]), by go_num, unhide L2, unhide b7⟩
          case measure => simp [intOf]; omega
      · have hone : gl.length = 1 := by
          have := List.length_pos_iff.2 gne
          omega
        have hk1 : k = 1 := by omega
        obtain ⟨r, hr⟩ : ∃ r, r = hasB (y : Int) (ci (nx y)) := ⟨_, rfl⟩
        have hon2 : Hid (∀ x ∈ G.getD i [], (On (Ed nx) x ↔ r = true)) := by
          rw [← hgl]
          intro x hx
          rw [hon x hx]
          have hE : Ed nx (gl.getD 0 0) (gl.getD 0 0) ↔ r = true := by
            rw [← hy, hr]
            unfold Ed hasB ci
            rw [List.any_eq_true]
            constructor
            · intro h
              exact ⟨(y : Int), List.mem_map.2 ⟨y, h, rfl⟩, by simp⟩
            · rintro ⟨q, h1, h2⟩
              obtain ⟨z, hz, e⟩ := List.mem_map.1 h1
              have h3 : (y : Int) = q := by simpa using h2
              have h4 : z = y := by omega
              rw [← h4]
              rw [h4] at hz
              rw [h4]
              exact hz
          rw [hE]
          exact ⟨fun h => h.elim (fun h => by omega) id, .inr⟩
        have hne : Nonempty (Wc (fun W => Below wr.heap.size wr W) wr) := ⟨⟨_, Below.refl _ _, Below.refl _ _⟩⟩
        have hDD : Below wr.heap.size wr wr.drew := ⟨rfl, rfl, rfl, Nat.le_refl _, fun _ _ => rfl⟩
        have w1c : ∀ x : Wc (fun W => Below wr.heap.size wr W) wr, x.w.cell? ⟨w.heap.size, 1, none⟩ = some (.slice (some ⟨G2', 0, none⟩) n cap2) := fun x => (x.ok.cell (p := ⟨w.heap.size, 1, none⟩) (World.block_lt_of_cell? _ _ qc1)).trans qc1
        have w2c : ∀ x : Wc (fun W => Below wr.heap.size wr W) wr, x.w.cell? ⟨gx, ox, none⟩ = some (.int .i64 (y : Int)) := fun x => (x.ok.cell (p := ⟨gx, ox, none⟩) (World.block_lt_of_cell? _ _ e0)).trans e0
        have w3c : ∀ x : Wc (fun W => Below wr.heap.size wr W) wr, x.w.cell? ⟨G2', y, none⟩ = some (.slice aX kx cX) := fun x => (x.ok.cell (p := ⟨G2', y, none⟩) (World.block_lt_of_cell? _ _ dX2)).trans dX2
        have cC := hide (fun x : Wc (fun W => Below wr.heap.size wr W) wr => (contains_any (y : Int) aX kx cX (ci (nx y)) x.w ((unhide sX2).later x.ok) hkx9).mono (R' := fun e w' => e = .returned (.bool r) ∧ Below x.w.heap.size x.w w') (fun e w' h => ⟨by rw [hr]; exact h.1, by rw [h.2]; exact Below.refl _ _⟩))
        replace hgl := hide hgl
        replace hy := hide hy
        replace b4 := hide b4
        replace hr := hide hr
        subst hk1
        clear e0 sx hg1 hon dX2 key sX hone hkg
        go_wp2_with fail
        refine wp_region_wc (S := fun W => Below wr.heap.size wr W) hDD (Below.refl _ _) (by kernel_rfl) (by kernel_rfl) ?_
        try simp only [List.append]
        repeat (go_big_quiet_step (first | (go_at_call 56; with_reducible exact Wc.call (fun _ _ h k => h.trans (k.mono h.size)) (unhide cC _))))
        refine wpQuiet_nil ?_
        intro w6 hw'
        have b6 : Hid (Below wr.heap.size wr w6) := by
          obtain ⟨x, hx⟩ := hw'
          rw [hx]
          exact x.bel
        clear hw' hne hDD w1c w2c w3c cC
        cases r
        · have L2 := hide (lw_no (unhide L1) (fun x hx ho => by have := (unhide hon2 x hx).1 ho; cases this))
          have b7 := hide ((unhide b3).trans ((unhide b6).mono (unhide b3).size))
          go_wp2
          go_roundw
          case rel => exact ⟨i + 1, f, by omega, rfl, by go_num, unhide L2, unhide b7⟩
          case measure => simp [intOf]; omega
        · have onA : Hid (∀ x ∈ G.getD i [], On (Ed nx) x) := fun x hx => (unhide hon2 x hx).2 rfl
          go_wp2_with fail
          refine (min_any w6 ((unhide hRd).next (unhide b6)) hlen3 hlen2).mono ?_
          rintro e w7 ⟨m, rfl, hm, rfl⟩
          obtain ⟨z, rfl, hz, hzm⟩ := unhide mn m w7 (unhide hm)
          have L2 := hide (lw_yes (unhide L1) (by rw [← unhide hgl]; exact gltn) (by rw [← unhide hgl]; exact hz) (by rw [← unhide hgl]; exact hzm) (unhide onA))
          have b7 := hide ((unhide b3).trans ((unhide b6).mono (unhide b3).size))
          clear hm hz hzm
          by_cases hfz : f ≤ z
          · have e1 : min (f : Int) (z : Int) = (f : Int) := by omega
            have e2 : Hid (min f z = f) := by show _ = _; omega
            rw [unhide e2] at L2
            go_wp2
            go_roundw
            case rel => exact ⟨i + 1, f, by omega, by first | rfl | (simp [e1]), by go_num, unhide L2, unhide b7⟩
            case measure => simp [intOf]; omega
          · have e1 : min (f : Int) (z : Int) = (z : Int) := by omega
            have e2 : Hid (min f z = z) := by show _ = _; omega
            rw [unhide e2] at L2
            go_wp2
            go_roundw
            case rel => exact ⟨i + 1, z, by omega, by first | rfl | (simp [e1]), by go_num, unhide L2, unhide b7⟩
            case measure => simp [intOf]; omega
    · obtain rfl : i = ng := by omega
      go_wp2_with fail
      go_region
      all_goals
        go_wp2
        go_ret2
        have hcov : ∀ x, On (Ed nx) x → x < n ∧ f ≤ x := fun x ho => by
          have hxn : x < n := by
            obtain ⟨t, e, _⟩ := ho
            exact unhide hnx x t e
          obtain ⟨g, hg, hxg⟩ := unhide hall x hxn
          obtain ⟨j, hj, e⟩ := List.getElem_of_mem hg
          refine ⟨hxn, (unhide L1).2.2 j (by rw [unhide hng]; exact hj) x ?_ ho⟩
          rw [show G.getD j [] = G[j] by simp [List.getD, hj], e]
          exact hxg
        refine ⟨f, rfl, fun h => ⟨(unhide L1).2.1 h, fun x ho => (hcov x ho).2⟩, fun h x ho => ?_, ?_⟩
        · have := hcov x ho
          omega
        · exact ((unhide b1).trans (((unhide b2).trans ((unhide b3).mono (unhide b2).size)).mono (unhide b1).size)).drew
end Go.Proofs.Ytjgepcifknmdhaa

/- Circle, On. -/
namespace Go.Proofs.Ytjgepcifknmdhaa
open Go.RowKit

/-- From the one to the other: an edge of l. -/
def CE (l : List En) (a b : Int) : Prop := (a, b) ∈ l
open Classical in
/-- Is n on a circle? -/
noncomputable def onB (l : List En) (n : Int) : Bool := decide (On (CE l) n)
theorem onB_iff {l : List En} {n : Int} : onB l n = true ↔ On (CE l) n := by
  unfold onB
  exact @decide_eq_true_iff _ (Classical.propDecidable _)
open Classical in
/-- The circle. -/
noncomputable def circD (l : List En) : List Int := if h : ∃ c, Circ (CE l) c then Classical.choose h else []
theorem circ_eq {l : List En} {c : List Int} (h : Circ (CE l) c) : c = circD l := by
  have h1 : ∃ c, Circ (CE l) c := ⟨c, h⟩
  unfold circD
  rw [dif_pos h1]
  exact h.same (Classical.choose_spec h1)
theorem Wb.form {l : List En} {N : List Int} {nx : Nat → List Nat} {v1 v2 : Value} {w : World} (h : Wb l N nx v1 v2 w) : (∃ a c, v1 = .slice a N.length c) ∧ ∃ G c, v2 = .slice (some ⟨G, 0, none⟩) N.length c := by
  obtain ⟨a, c, e, _⟩ := h.nam
  exact ⟨⟨a, c, e⟩, h.rws.form⟩
theorem Wb.small {l : List En} {N : List Int} {nx : Nat → List Nat} {v1 v2 : Value} {w : World} (h : Wb l N nx v1 v2 w) : (∀ x, x < N.length → ∀ y ∈ nx x, y < N.length) ∧ (∀ x y, Ed nx x y → x < N.length) :=
  ⟨fun x _ y hy => (h.iso.edge x y hy).2, fun x y e => (h.iso.edge x y e).1⟩
set_option maxRecDepth 100000 in
set_option maxHeartbeats 2000000 in
theorem on_any (w : World) {v : Value} {l : List En} (h : Re w v l) (hl : l.length ≤ 300) (n : Int) :
    Calls Try.prog 21 #[.int .i64 n, v] w fun e w' => e = .returned (.bool (onB l n)) ∧ Below w.heap.size w w' := by
  have C1 := hide (weave_any w h hl)
  have hNl : (canon (nodL l)).length ≤ 600 := by
    have := canon_le (nodL l)
    rw [nod_len] at this
    omega
  obtain ⟨a, cap, rfl⟩ := h.form
  generalize canon (nodL l) = N at C1 hNl
  clear h
  obtain ⟨r, hr⟩ : ∃ r, r = onB l n := ⟨_, rfl⟩
  rw [← hr]
  replace hr := hide hr
  replace hNl := hide hNl
  go_enter Try.func21, Try.ntmps21
  go_wp2_with fail
  refine (unhide C1).mono ?_
  rintro e w1 ⟨v1, v2, nx, rfl, B1, b1⟩
  obtain ⟨⟨a1, c1, rfl⟩, G2, c2, rfl⟩ := B1.form
  obtain ⟨m, hm⟩ : ∃ m, m = N.length := ⟨_, rfl⟩
  rw [← hm] at B1 ⊢
  obtain ⟨W2, hW2⟩ : ∃ W2, W2 = w1.alloc (.cells #[.slice a1 m c1, .slice (some ⟨G2, 0, none⟩) m c2] 53) := ⟨_, rfl⟩
  have b2 : Below w1.heap.size w1 W2 := by rw [hW2]; exact below_new w1 _
  have o2 : W2.heap[w1.heap.size]? = some (.cells #[.slice a1 m c1, .slice (some ⟨G2, 0, none⟩) m c2] 53 (0, 0)) := by rw [hW2]; exact heap_alloc_new w1 _
  have k0 : W2.cell? ⟨w1.heap.size, 0, none⟩ = some (.slice a1 m c1) := by simp [World.cell?, o2]
  have k1 : W2.cell? ⟨w1.heap.size, 1, none⟩ = some (.slice (some ⟨G2, 0, none⟩) m c2) := by simp [World.cell?, o2]
  have B2 := B1.next b2
  have S1 := hide (search_i W2 B2.nam B2.up n (by have := unhide hNl; omega))
  have hon : Hid (∀ i, i < N.length → N.getD i 0 = n → (On (Ed nx) i ↔ r = true)) := fun i hi e => by
    rw [unhide hr, onB_iff, ← B2.iso.on_iff hi, e]; rfl
  have hout : Hid (n ∉ N → r = false) := fun hn => by
    rw [unhide hr]
    cases hx : onB l n
    · rfl
    · exfalso
      obtain ⟨i, e, hi, _⟩ := B2.iso.on_back (onB_iff.1 hx)
      exact hn (by rw [e]; exact at_mem hi)
  have b3 := hide (below_then b1 b2)
  replace B2 := hide B2
  replace hm := hide hm
  rw [hW2] at k0 k1
  clear B1 b1 b2 o2 C1
  by_cases hmem : n ∈ N
  · rw [show decide (n ∈ N) = true by simpa using hmem] at S1
    go_wp2_with fail
    rw [← hW2] at k0 k1 ⊢
    replace hW2 := hide hW2
    refine (unhide S1).mono ?_
    rintro e w3 ⟨i, rfl, st, rfl⟩
    obtain ⟨hi, ei⟩ := stand_in (unhide B2).up (unhide st) hmem
    have C3 := hide (wab_any w3 (unhide B2).nam (by rw [unhide hm]) (by rw [unhide hm]; exact (unhide B2).rws) (n := m) (nx := nx) (f := i) (by rw [unhide hm]; exact hi) (by rw [unhide hm]; exact (unhide B2).small.1) (unhide B2).ris (by rw [unhide hm]; have := unhide hNl; omega) (fun x _ => by have := (unhide B2).few x; omega))
    have hoi := hide (unhide hon i hi ei)
    clear hmem hi ei
    go_wp2_with fail
    refine (unhide C3).mono ?_
    rintro e w4 ⟨rv, P, rfl, i4, hP, hPl, hPn, b4⟩
    have b5 := hide (below_then (unhide b3) b4)
    obtain ⟨a4, c4, e4⟩ := i4.form
    rw [ci_len] at e4
    subst e4
    clear i4 b4
    rcases hP with ⟨hP0, hno⟩ | ⟨hP0, hyes, _⟩
    · have hr0 : r = false := by
        cases hx : r
        · rfl
        · exact absurd ((unhide hoi).2 hx) hno
      subst hP0
      subst hr0
      clear hno
      go_wp2
      go_ret
      exact ⟨rfl, unhide b5⟩
    · have hr1 : r = true := (unhide hoi).1 hyes
      have hpos : 0 < P.length := List.length_pos_iff.2 hP0
      subst hr1
      generalize P.length = k at *
      clear hP0 hyes hPn
      go_wp2
      go_ret
      exact ⟨rfl, unhide b5⟩
  · have hr0 := unhide hout hmem
    subst hr0
    rw [show decide (n ∈ N) = false by simpa using hmem] at S1
    go_wp2_with fail
    rw [← hW2] at k0 k1 ⊢
    replace hW2 := hide hW2
    refine (unhide S1).mono ?_
    rintro e w3 ⟨i, rfl, st, rfl⟩
    go_wp2
    go_ret
    exact ⟨rfl, unhide b3⟩
theorem map_getD (f : Nat → Int) (P : List Nat) (t : Nat) (ht : t < P.length) : (P.take (t + 1)).map f = (P.take t).map f ++ [f (P.getD t 0)] := by
  rw [List.take_succ_eq_append_getElem ht, List.map_append]
  simp [List.getD, ht]
set_option maxRecDepth 100000 in
set_option maxHeartbeats 4000000 in
theorem circle_any (w : World) {v : Value} {l : List En} (h : Re w v l) (hl : l.length ≤ 300) :
    Calls Try.prog 19 #[v] w fun e w' => ∃ ov, e = .returned ov ∧ Is w.heap.size ov (circD l) w' ∧ Circ (CE l) (circD l) ∧ (circD l).length ≤ 1000 ∧ Below w.heap.size w w' := by
  have C1 := hide (weave_any w h hl)
  have hNl : (canon (nodL l)).length ≤ 600 := by
    have := canon_le (nodL l)
    rw [nod_len] at this
    omega
  obtain ⟨a, cap, rfl⟩ := h.form
  generalize canon (nodL l) = N at C1 hNl
  clear h
  replace hNl := hide hNl
  have fin : Hid (∀ (c : List Int) (ov : Value) (w' : World), Circ (CE l) c → Is w.heap.size ov c w' → c.length ≤ 1000 → Is w.heap.size ov (circD l) w' ∧ Circ (CE l) (circD l) ∧ (circD l).length ≤ 1000) := fun c ov w' hc hi hle => by
    rw [← circ_eq hc]; exact ⟨hi, hc, hle⟩
  go_enter Try.func19, Try.ntmps19
  go_wp2_with fail
  refine (unhide C1).mono ?_
  rintro e w1 ⟨v1, v2, nx, rfl, B1, b1⟩
  obtain ⟨⟨a1, c1, rfl⟩, G2, c2, rfl⟩ := B1.form
  obtain ⟨m, hm⟩ : ∃ m, m = N.length := ⟨_, rfl⟩
  rw [← hm] at B1 ⊢
  obtain ⟨W2, hW2⟩ : ∃ W2, W2 = w1.alloc (.cells #[.slice a1 m c1, .slice (some ⟨G2, 0, none⟩) m c2] 53) := ⟨_, rfl⟩
  have b2 : Below w1.heap.size w1 W2 := by rw [hW2]; exact below_new w1 _
  have o2 : W2.heap[w1.heap.size]? = some (.cells #[.slice a1 m c1, .slice (some ⟨G2, 0, none⟩) m c2] 53 (0, 0)) := by rw [hW2]; exact heap_alloc_new w1 _
  have k0 : W2.cell? ⟨w1.heap.size, 0, none⟩ = some (.slice a1 m c1) := by simp [World.cell?, o2]
  have k1 : W2.cell? ⟨w1.heap.size, 1, none⟩ = some (.slice (some ⟨G2, 0, none⟩) m c2) := by simp [World.cell?, o2]
  have B2 := B1.next b2
  have qk : Hid (∀ W, Below W2.heap.size W2 W → W.cell? ⟨w1.heap.size, 0, none⟩ = some (.slice a1 m c1) ∧ W.cell? ⟨w1.heap.size, 1, none⟩ = some (.slice (some ⟨G2, 0, none⟩) m c2)) := fun W hW => by
    have := (hW.block _ (heap_lt o2)).trans o2
    exact ⟨by simp [World.cell?, this], by simp [World.cell?, this]⟩
  have sm := B2.small
  have S1 := hide (low_any W2 B2.nam (by rw [hm]) (n := m) (nx := nx) (by rw [hm]; exact B2.rws) (by rw [hm]; exact sm.1) (by rw [hm]; exact sm.2) (by have := unhide hNl; omega) B2.few)
  have b3 := hide (below_then b1 b2)
  replace B2 := hide B2
  replace hm := hide hm
  replace sm := hide sm
  rw [hW2] at k0 k1
  clear B1 b1 b2 o2 C1
  go_wp2_with fail
  rw [← hW2]
  replace hW2 := hide hW2
  refine (unhide S1).mono ?_
  rintro e w3 ⟨f, rfl, hyes, hno, b4⟩
  have b5 := hide (below_then (unhide b3) b4)
  obtain ⟨k2, k3⟩ := unhide qk w3 b4
  have B3 := hide ((unhide B2).next b4)
  replace b4 := hide b4
  clear k0 k1
  by_cases hfm : f < m
  · have hfd : decide (f < m) = true := by simpa using hfm
    rw [hfd]
    obtain ⟨hon, hleast⟩ := hyes hfm
    have C3 := hide (wab_any w3 (unhide B3).nam (by rw [unhide hm]) (by rw [unhide hm]; exact (unhide B3).rws) (n := m) (nx := nx) (f := f) hfm (by rw [unhide hm]; exact (unhide sm).1) (unhide B3).ris (by rw [unhide hm]; have := unhide hNl; omega) (fun x _ => by have := (unhide B3).few x; omega))
    replace hon := hide hon
    replace hleast := hide hleast
    clear hyes hno hfd
    go_wp2_with fail
    refine (unhide C3).mono ?_
    rintro e w4 ⟨rv, P, rfl, i4, hP, hPl, hPn, b6⟩
    have hcirc : Hid (Circ (CE l) (P.map (fun i => N.getD i 0))) := by
      rcases hP with ⟨_, h1⟩ | ⟨_, _, h1⟩
      · exact absurd (unhide hon) h1
      · exact (unhide B3).iso.circ (h1 (unhide hleast))
    have hPm : Hid (∀ x ∈ P, x < m) := by
      rcases hP with ⟨h1, _⟩ | ⟨_, _, h1⟩
      · rw [h1]; exact fun x hx => (by cases hx)
      · have h2 := h1 (unhide hleast)
        rcases h2 with ⟨h3, _⟩ | ⟨s, p, u, h3, h4, _, h5, _⟩
        · rw [h3]; exact fun x hx => (by cases hx)
        · rw [h3, unhide hm]
          obtain ⟨t, e, _⟩ := h4
          exact ((unhide B3).iso.way ((unhide B3).iso.edge _ _ e).1 h5).1
    obtain ⟨k4, k5⟩ := unhide qk w4 ((unhide b4).trans (b6.mono (unhide b4).size))
    have b7 := hide (below_then (unhide b5) b6)
    have B4 := hide ((unhide B3).next b6)
    obtain ⟨np, hnp⟩ : ∃ np, np = P.length := ⟨_, rfl⟩
    obtain ⟨a4, c4, e4⟩ := i4.form
    rw [ci_len, ← hnp] at e4
    subst e4
    replace i4 := hide i4
    have hnp9 : np ≤ 1000 := by omega
    replace hnp := hide hnp
    replace hPl := hide hPl
    replace b6 := hide b6
    clear hP hPn k2 k3 C3 S1
    go_wp2
    go_loopw [6, 22] (fun s6 s22 wr => ∃ (t : Nat) (ag : Option Addr) (cg : Nat), t ≤ np ∧ s6 = .slice ag t cg ∧ s22 = .int .i64 t ∧ Hid (Is w4.heap.size (.slice ag t cg) ((P.take t).map (fun i => N.getD i 0)) wr) ∧ Hid (Below w4.heap.size w4 wr)) (fun _ s22 _ => np - (intOf s22).toNat)
    case atStart => exact ⟨0, none, 0, Nat.zero_le _, rfl, rfl, by simpa [Hid] using is_nil w4.heap.size w4, Below.refl _ _⟩
    case round =>
      obtain ⟨t, ag, cg, ht, rfl, rfl, I1, b8⟩ := hrel
      have I2 := hide ((unhide i4).next (unhide b8))
      by_cases hlt : t < np
      · have htP : t < P.length := by rw [← unhide hnp]; exact hlt
        obtain ⟨gx, ox, rfl, d1, _⟩ := (unhide I2).elem' (i := t) (by rw [ci_len]; exact htP)
        obtain ⟨p, hp⟩ : ∃ p, p = P.getD t 0 := ⟨_, rfl⟩
        rw [ci_at, ← hp] at d1
        have hpm : p < m := by rw [hp]; exact unhide hPm _ (at_mem_nat htP)
        have BR := (unhide B4).next (unhide b8)
        obtain ⟨an, cn, en, sn⟩ := BR.nam
        have en1 : a1 = an := by injection en
        clear en
        subst en1
        obtain ⟨gn, on, rfl, d2⟩ := seg_at sn (i := p) (by rw [← unhide hm]; exact hpm)
        obtain ⟨z, hz⟩ : ∃ z, z = N.getD p 0 := ⟨_, rfl⟩
        rw [← hz] at d2
        obtain ⟨k6, _⟩ := unhide qk wr (((unhide b4).trans ((unhide b6).mono (unhide b4).size)).trans ((unhide b8).mono (by have := ((unhide b4).trans ((unhide b6).mono (unhide b4).size)).size; exact this)))
        have stp := hide (map_getD (fun i => N.getD i 0) P t htP)
        rw [← hp, ← hz] at stp
        have hl1 : Hid (((P.take t).map (fun i => N.getD i 0)).length = t) := by show _ = _; rw [List.length_map, List.length_take]; omega
        have hbs : Hid (w4.heap.size ≤ wr.heap.size) := (unhide b8).size
        have ht9 : t < 10000000 := by omega
        replace hp := hide hp
        replace hz := hide hz
        clear sn BR
        go_wp2_with (at_builtin; refine wpList_push _ rfl (.tmp 26) (.tmp 32) rfl w4.heap.size ag t cg _ z _ rfl rfl rfl (unhide hl1) (unhide I1) (unhide hbs) ht9 ?_; intro g5 cap5 w5 a1' a2'; have f2 := (unhide b8).grown a2' (unhide b8).size (fun k hk => ((unhide I1).lt k hk).1); replace a1' := hide a1'; replace a2' := hide a2'; replace f2 := hide f2)
        go_roundw
        case rel => exact ⟨t + 1, _, _, by omega, rfl, by go_num, by rw [unhide stp]; exact unhide a1', unhide f2⟩
        case measure => simp [intOf]; omega
      · obtain rfl : t = np := by omega
        have e9 : P.take t = P := by rw [unhide hnp]; exact List.take_length
        have F := unhide fin _ _ wr (unhide hcirc) (by have := (unhide I1).down (unhide b7).size; rw [e9] at this; exact this) (by rw [List.length_map]; exact unhide hPl)
        replace F := hide F
        have b9 := hide ((unhide b7).trans ((unhide b8).mono (unhide b7).size))
        clear e9
        go_wp2
        go_ret
        exact ⟨_, rfl, (unhide F).1, (unhide F).2.1, (unhide F).2.2, unhide b9⟩
  · have hfd : decide (f < m) = false := by simpa using hfm
    rw [hfd]
    have hc : Circ (CE l) [] := .inl ⟨rfl, fun x ho => by
      obtain ⟨i, _, _, ho2⟩ := (unhide B3).iso.on_back ho
      exact hno hfm i ho2⟩
    have F := hide (unhide fin [] (.slice none 0 0) w3 hc (is_nil _ _) (Nat.zero_le _))
    clear hyes hno hfd hc
    go_wp2
    go_ret
    exact ⟨_, rfl, (unhide F).1, (unhide F).2.1, (unhide F).2.2, unhide b5⟩
end Go.Proofs.Ytjgepcifknmdhaa

/- Slices of structs whose fields are all whole numbers: how one that came in lies in memory. -/
namespace Go.Proofs.Ytjgepcifknmdhaa
open Go.RowKit Go.Deep

/-- The type e is a struct of N fields, each one cell, each a whole number of 64 bits. -/
def plainInts (P : Program) (e : TypeId) (N : Nat) : Bool :=
  match P.underlying e with
  | some (.struct fs) => (fs.size == N) && ((P.cellsOf e == N) && (List.range N).all fun i =>
      match fs[i]? with
      | some f => (f.offset == i) && ((P.cellsOf f.type == 1) && match P.underlying f.type with
          | some (.int .i64) => true
          | _ => false)
      | none => false)
  | _ => false
theorem plainInts_out {P : Program} {e : TypeId} {N : Nat} (h : plainInts P e N = true) : ∃ fs : Array Field, P.underlying e = some (.struct fs) ∧ fs.size = N ∧ P.cellsOf e = N ∧
    ∀ (i : Nat) (f : Field), fs[i]? = some f → f.offset = i ∧ P.cellsOf f.type = 1 ∧ P.underlying f.type = some (.int .i64) := by
  unfold plainInts at h
  split at h
  · rename_i fs hfs
    simp only [Bool.and_eq_true, beq_iff_eq, List.all_eq_true, List.mem_range] at h
    obtain ⟨h1, h2, h3⟩ := h
    refine ⟨fs, hfs, h1, h2, fun i f hf => ?_⟩
    have hi : i < N := by
      rw [← h1]
      obtain ⟨hlt, _⟩ := Array.getElem?_eq_some_iff.1 hf
      exact hlt
    have h4 := h3 i hi
    rw [hf] at h4
    simp only [Bool.and_eq_true, beq_iff_eq] at h4
    obtain ⟨h5, h6, h7⟩ := h4
    refine ⟨h5, h6, ?_⟩
    split at h7
    · assumption
    · cases h7
  · cases h

section
variable {H : Type} {enc : TypeId × Value → H} {P : Program} {w : World} {base : Nat} {spare : Nat → Bool} {held : Bool}
theorem open_structs {t e : TypeId} {N fuel : Nat} {cs : List Value} {x : DataW H × List MemPlace} (ht : P.underlying t = some (.slice e)) (hp : plainInts P e N = true)
    (h : DataW.trod enc P w base spare held fuel t cs = some x) :
    cs = [.slice none 0 0] ∨
    ∃ (a : Addr) (len cap : Nat) (Z : Nat → Nat → Int), cs = [.slice (some a) len cap] ∧ len ≤ cap ∧ cap ≤ maxLen ∧
      ∀ i, i < len → ∀ j, j < N → w.cell? (a.add (i * N + j)) = some (.int .i64 (Z i j)) ∧ (Lit.int .i64 (Z i j)).wf = true := by
  obtain ⟨fs, he, hN, ce, hall⟩ := plainInts_out hp
  rcases open_slice ht h with h0 | ⟨a, len, cap, m, n, D, Pl, rfl, hb, hl, hm, hmm, rfl, hx⟩
  · exact Or.inl h0.1
  right
  have hlm : len ≤ m := by rw [hmm]; split <;> omega
  have each : ∀ i, i < len → ∃ q : Nat → Int, ∀ j, j < N → w.cell? (a.add (i * N + j)) = some (.int .i64 (q j)) ∧ (Lit.int .i64 (q j)).wf = true := by
    intro i hi
    obtain ⟨cs', h1, h2⟩ := hx i (by omega)
    rw [ce] at h1
    obtain ⟨_, hlen, hcell⟩ := World.cells?_some h1
    obtain ⟨xs, k, hk, hxy, _, hxl, hf⟩ := DataW.trod_struct he h2
    refine choose_lt (p := fun j z => w.cell? (a.add (i * N + j)) = some (.int .i64 z) ∧ (Lit.int .i64 z).wf = true) ?_
    intro j hj
    have hj' : j < fs.size := by omega
    obtain ⟨o1, o2, o3⟩ := hall j fs[j] (Array.getElem?_eq_getElem hj')
    have g := hf j fs[j] (Array.getElem?_eq_getElem hj')
    rw [o1, o2] at g
    have e1 := hcell j (by omega)
    rw [add_add] at e1
    have hjc : j < cs'.length := by omega
    rw [List.drop_eq_getElem_cons hjc, List.take_succ_cons, List.take_zero, List.getElem?_eq_getElem (by omega)] at g
    obtain ⟨z, hz, _, hw⟩ := DataW.trod_int o3 g
    refine ⟨z, ?_, hw⟩
    rw [e1, List.getElem?_eq_getElem hjc]
    simpa using hz
  obtain ⟨q, hq⟩ := choose_lt each
  exact ⟨a, len, cap, q, rfl, hl, hm, hq⟩
end

/-- A slice of structs of N numbers that came in: element i's field j is Z i j. -/
def IsRecs (N : Nat) (w : World) (a : Option Addr) (len cap : Nat) (Z : Nat → Nat → Int) : Prop :=
  (a = none ∧ len = 0 ∧ cap = 0) ∨
  ∃ x, a = some x ∧ len ≤ cap ∧ cap ≤ maxLen ∧ ∀ i, i < len → ∀ j, j < N → w.cell? (x.add (i * N + j)) = some (.int .i64 (Z i j)) ∧ (Lit.int .i64 (Z i j)).wf = true
/-- .. as it lies below B. -/
def RecsB (N B : Nat) (w : World) (a : Option Addr) (len : Nat) (Z : Nat → Nat → Int) : Prop :=
  len = 0 ∨ ∃ b off, a = some ⟨b, off, none⟩ ∧ b < B ∧ ∀ i, i < len → ∀ j, j < N → w.cell? ⟨b, off + i * N + j, none⟩ = some (.int .i64 (Z i j))
theorem isRecs_low {N : Nat} {w : World} {a : Option Addr} {len cap : Nat} {Z : Nat → Nat → Int} (hN : 0 < N) (h : IsRecs N w a len cap Z) :
    RecsB N w.heap.size w a len Z ∧ len ≤ cap ∧ cap ≤ maxLen ∧ ∀ i, i < len → ∀ j, j < N → (Lit.int .i64 (Z i j)).wf = true := by
  rcases h with ⟨rfl, rfl, rfl⟩ | ⟨x, rfl, hl, hm, hc⟩
  · exact ⟨.inl rfl, Nat.le_refl _, Nat.zero_le _, fun i hi => absurd hi (Nat.not_lt_zero _)⟩
  · refine ⟨?_, hl, hm, fun i hi j hj => (hc i hi j hj).2⟩
    by_cases h0 : len = 0
    · exact .inl h0
    · obtain ⟨b, off, spot⟩ := x
      have h1 := (hc 0 (by omega) 0 hN).1
      have hspot : spot = none := by simpa [Addr.add] using World.cell?_spot h1
      subst hspot
      have hbl : b < w.heap.size := by
        simp [Addr.add, World.cell?] at h1
        by_cases hb : b < w.heap.size
        · exact hb
        · simp [Array.getElem?_eq_none (show w.heap.size ≤ b by omega)] at h1
      refine .inr ⟨b, off, rfl, hbl, fun i hi j hj => ?_⟩
      have h2 := (hc i hi j hj).1
      have e : Addr.add ⟨b, off, none⟩ (i * N + j) = ⟨b, off + i * N + j, none⟩ := by
        rw [Nat.add_assoc]
        generalize i * N + j = q
        by_cases h : q = 0 <;> simp [Addr.add, h]
      rwa [e] at h2
theorem RecsB.later {N B : Nat} {w w' : World} {a : Option Addr} {len : Nat} {Z : Nat → Nat → Int} (h : RecsB N B w a len Z) (hb : Below B w w') : RecsB N B w' a len Z := by
  rcases h with h0 | ⟨b, off, rfl, hlt, hc⟩
  · exact .inl h0
  · exact .inr ⟨b, off, rfl, hlt, fun i hi j hj => (hb.cell hlt).trans (hc i hi j hj)⟩
theorem RecsB.at {N B : Nat} {w : World} {a : Option Addr} {len : Nat} {Z : Nat → Nat → Int} (h : RecsB N B w a len Z) {i : Nat} (hi : i < len) :
    ∃ b off, a = some ⟨b, off, none⟩ ∧ b < B ∧ ∀ j, j < N → w.cell? ⟨b, off + i * N + j, none⟩ = some (.int .i64 (Z i j)) := by
  rcases h with h0 | ⟨b, off, rfl, hlt, hc⟩
  · omega
  · exact ⟨b, off, rfl, hlt, hc i hi⟩
end Go.Proofs.Ytjgepcifknmdhaa
