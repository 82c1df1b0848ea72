/- Texts; and what Check says of a program that is printed and read back. -/
import Derived.Test.YtanieihnkajpdaaDoorLines
namespace Go.Proofs.YtanieihnkajpdaaDoor
open Go.RowKit

theorem named_norm (x : In) : namedD (norm x) = namedD x := by
  obtain ⟨k, a, b, c, l⟩ := x
  by_cases h1 : k = 1 ∨ k = 2
  · simp [norm, namedD, h1]
  by_cases h3 : k = 3 ∨ k = 5
  · simp [norm, namedD, h1, h3]
  by_cases h4 : k = 4
  · simp [norm, namedD, h4]
  · simp [norm, namedD, h1, h3, h4]
theorem norm_k (x : In) : (norm x).k = x.k := by
  unfold norm
  by_cases h1 : x.k = 1 ∨ x.k = 2
  · rw [if_pos h1]
  rw [if_neg h1]
  by_cases h3 : x.k = 3 ∨ x.k = 5
  · rw [if_pos h3]
  rw [if_neg h3]
  by_cases h4 : x.k = 4
  · rw [if_pos h4]
  rw [if_neg h4]
theorem line_norm (x : In) : lineOf (norm x) = lineOf x := by unfold lineOf; rw [named_norm, norm_k]
theorem st_norm {g : Int} {x : In} {i n : Int} (h : stB g x i n = true) : stB g (norm x) i n = true := by
  obtain ⟨k, a, b, c, l⟩ := x
  by_cases h0 : k ≠ 4 ∧ 0 < l.length
  · unfold stB at h; rw [if_pos h0] at h; cases h
  by_cases h4 : k = 4
  · subst h4
    have : norm ⟨4, a, b, c, l⟩ = ⟨4, a, b, 0, l⟩ := rfl
    rw [this]
    unfold stB at h ⊢
    simpa [reB] using h
  obtain rfl : l = [] := by
    cases l with
    | nil => rfl
    | cons y r => exact absurd ⟨h4, Nat.succ_pos _⟩ h0
  unfold norm
  by_cases h1 : k = 1 ∨ k = 2
  · rw [if_pos h1]; exact h
  rw [if_neg h1]
  by_cases h3 : k = 3 ∨ k = 5
  · rw [if_pos h3]
    rcases h3 with rfl | rfl
    · exact h
    · exact h
  rw [if_neg h3, if_neg h4]
  unfold stB at h ⊢
  have n3 : ¬ k = 3 := fun e => h3 (.inl e)
  have n5 : ¬ k = 5 := fun e => h3 (.inr e)
  rw [if_neg h0, if_neg h1, if_neg n3, if_neg h4, if_neg n5] at h
  rw [if_neg h0, if_neg h1, if_neg n3, if_neg h4, if_neg n5]
  exact h
theorem st_kind {g : Int} {x : In} {i n : Int} (h : stB g x i n = true) : 1 ≤ x.k ∧ x.k ≤ 7 := by
  by_cases hk : 1 ≤ x.k ∧ x.k ≤ 7
  · exact hk
  exfalso
  unfold stB at h
  rw [if_neg (show ¬ (x.k = 1 ∨ x.k = 2) by omega), if_neg (show ¬ x.k = 3 by omega), if_neg (show ¬ x.k = 4 by omega), if_neg (show ¬ x.k = 5 by omega), decide_eq_false (show ¬ (x.k = 6 ∨ x.k = 7) by omega)] at h
  split at h <;> cases h
theorem st_jump {g : Int} {x : In} {i n : Int} (h : stB g x i n = true) (h5 : x.k = 5) : i < x.b ∧ x.b ≤ n := by
  unfold stB at h
  rw [if_neg (show ¬ (x.k = 1 ∨ x.k = 2) by omega), if_neg (show ¬ x.k = 3 by omega), if_neg (show ¬ x.k = 4 by omega), if_pos h5] at h
  split at h
  · cases h
  · simp only [Bool.and_eq_true, decide_eq_true_eq] at h
    exact h.2
theorem st_calc {g : Int} {x : In} {i n : Int} (h : stB g x i n = true) (h4 : x.k = 4) : knownB x.b = true := by
  unfold stB at h
  rw [if_neg (show ¬ (x.k = 1 ∨ x.k = 2) by omega), if_neg (show ¬ x.k = 3 by omega), if_pos h4] at h
  split at h
  · cases h
  · unfold reB at h
    simp only [Bool.and_eq_true] at h
    exact h.2.1
theorem check_out {c : Cf} {ps : List In} (h : checkD c ps = 0) : okB c = true ∧ ps.length ≤ 60 ∧ ∀ i : Nat, i < ps.length → stB c.g (ps.getD i z0) i ps.length = true := by
  have : chB c ps = true := by
    cases hc : chB c ps
    · unfold checkD at h; rw [hc] at h; cases h
    · rfl
  unfold chB at this
  simp only [Bool.and_eq_true, decide_eq_true_eq, List.all_eq_true, List.mem_range] at this
  exact ⟨this.1, this.2.1, this.2.2⟩
theorem check_norm {c : Cf} {ps : List In} (h : checkD c ps = 0) : checkD c (ps.map norm) = 0 := by
  obtain ⟨h1, h2, h3⟩ := check_out h
  refine ch_yes h1 (by rw [List.length_map]; exact h2) fun i hi => ?_
  rw [List.length_map] at hi ⊢
  have : (ps.map norm).getD i z0 = norm (ps.getD i z0) := by simp [hi]
  rw [this]
  exact st_norm (h3 i hi)
theorem check_kind {c : Cf} {ps : List In} (h : checkD c ps = 0) : ∀ x ∈ ps, 1 ≤ x.k ∧ x.k ≤ 7 := by
  intro x hx
  obtain ⟨_, _, h3⟩ := check_out h
  obtain ⟨i, hi, rfl⟩ := List.getElem_of_mem hx
  have := st_kind (h3 i hi)
  simpa [hi] using this
theorem addr_in {c : Cf} (h : okB c = true) (x : In) (rs : List Int) : 0 ≤ addrD c x rs ∧ addrD c x rs < wordsD c := by
  have hw : wordsD c = nw c := by unfold wordsD; rw [h]; rfl
  have h1 := (nw_in (okB_hp h)).1
  unfold addrD
  rw [hw]
  split
  · exact wrapD_in h1
  · split
    · exact wrapD_in h1
    · omega
theorem lines_norm (ps : List In) : (ps.map norm).map lineOf = ps.map lineOf := by
  rw [List.map_map]
  exact List.map_congr_left fun x _ => line_norm x
theorem fine_norm {x : In} (h : Fine x) : Fine (norm x) := by
  have z : I64 0 := i64_small (by omega) (by omega)
  have e : ∀ n ∈ ([] : List Int), I64 n := fun n hn => by cases hn
  unfold norm
  split
  · exact ⟨h.k, h.a, h.b, h.c, e, Nat.zero_le _⟩
  split
  · exact ⟨h.k, h.a, h.b, z, e, Nat.zero_le _⟩
  split
  · exact ⟨h.k, h.a, h.b, z, h.l, h.s⟩
  · exact ⟨h.k, z, z, z, e, Nat.zero_le _⟩
set_option maxRecDepth 100000 in
theorem texts_any (ss : List (List UInt8)) (u v : Value) (w : World) (hu : Ss w.heap.size w u ss) (hv : Ss w.heap.size w v ss) :
    Calls Tryd.prog 16 #[u, v] w fun e w' => e = .returned (.bool true) ∧ Below w.heap.size w w' := by
  have hmax : maxLen = 9223372036854775807 := rfl
  obtain ⟨a, ca, rfl, a1, a2, _, a3⟩ := hu
  obtain ⟨b, cb, rfl, b1, b2, _, b3⟩ := hv
  obtain ⟨n, hn⟩ : ∃ n, n = ss.length := ⟨_, rfl⟩
  rw [← hn] at a1 b1 ⊢
  have hnl : (n : Int) ≤ 9223372036854775807 := by omega
  replace hn := hide hn
  replace a3 := hide a3
  replace b3 := hide b3
  have nn : ((n : Int) == (n : Int)) = true := by simp
  go_enter Tryd.func16, Tryd.ntmps16
  go_wp2_with fail
  go_loopw [5] (fun i wr => ∃ k : Nat, k ≤ n ∧ i = .int .i64 k ∧ Below w.heap.size w wr) (fun i _ => n - (RowKit.intOf i).toNat)
  case atStart => exact ⟨0, Nat.zero_le _, rfl, Below.refl _ _⟩
  case round =>
    obtain ⟨k, hk, rfl, hb⟩ := hrel
    by_cases hlt : k < n
    · have kd : decide ((k : Int) < (n : Int)) = true := decide_eq_true (by omega)
      have kl : (k : Int) < (n : Int) := by omega
      rcases unhide a3 with h0 | ⟨ba, oa, rfl, la, hca⟩
      · have := unhide hn; omega
      rcases unhide b3 with h0 | ⟨bb, ob, rfl, lb, hcb⟩
      · have := unhide hn; omega
      have c0 : wr.drew.cell? ⟨ba, oa + k, none⟩ = _ := (hb.drew.cell la).trans (hca k (by have := unhide hn; omega))
      have d0 : wr.drew.cell? ⟨bb, ob + k, none⟩ = _ := (hb.drew.cell lb).trans (hcb k (by have := unhide hn; omega))
      obtain ⟨s, hs⟩ : ∃ s : ByteArray, s = ⟨(ss.getD k []).toArray⟩ := ⟨_, rfl⟩
      rw [← hs] at c0 d0
      clear hs hca hcb
      replace hb := hide hb.drew
      go_wp2_with fail
      go_region_held3 (fun wz => wz.cell? ⟨ba, oa + k, none⟩ = some (.string s) ∧ wz.cell? ⟨bb, ob + k, none⟩ = some (.string s)) (with_reducible exact ⟨c0, d0⟩) (fail)
      go_wp2
      go_roundw
      case rel => exact ⟨k + 1, by omega, by go_num, unhide hb⟩
      case measure => first | omega | (simp; omega) | (simp [RowKit.intOf]; omega)
    · have kd : decide ((k : Int) < (n : Int)) = false := decide_eq_false (by omega)
      go_wp2
      go_ret
      exact ⟨rfl, hb⟩
end Go.Proofs.YtanieihnkajpdaaDoor
