/- play of a machine. -/
import Derived.Test.YtdhfpfkcbcgnaaaStep
namespace Go.Proofs.Ytdhfpfkcbcgnaaa
open Go.RowKit

/-- A program from instruction k on: the state behind it, and its end. -/
def playD (c : Cf) (ps : List In) : Nat → Nat → St → St × Int
  | 0, _, s => (s, 1)
  | f + 1, k, s => if k < ps.length then (if (ps.getD k z0).k = 6 then (s, 2) else if (ps.getD k z0).k = 7 then (s, 3) else playD c ps f (stepD c (ps.getD k z0) k s).2 (stepD c (ps.getD k z0) k s).1) else (s, 1)
theorem play_end {c : Cf} {ps : List In} {f k : Nat} {s : St} (h : ps.length ≤ k) : playD c ps f k s = (s, 1) := by
  cases f with
  | zero => rfl
  | succ f => rw [playD, if_neg (by omega)]
theorem step_rd {c : Cf} {x : In} {i : Nat} {s : St} : (stepD c x i s).1.rd.length ≤ s.rd.length + 1 := by
  unfold stepD
  split
  · simp [readD]
  · split
    · simp [writeD]
    · split
      · simp
      · split
        · simp
        · split
          · split <;> simp
          · simp
theorem step_wr {c : Cf} {x : In} {i : Nat} {s : St} : (stepD c x i s).1.wr.length ≤ s.wr.length + 1 := by
  unfold stepD
  split
  · simp [readD]
  · split
    · simp [writeD]
    · split
      · simp
      · split
        · simp
        · split
          · split <;> simp
          · simp
theorem step_at {c : Cf} {x : In} {i n : Nat} {s : St} (h : stB c.g x i n = true) (hi : i < n) : i < (stepD c x i s).2 ∧ (stepD c x i s).2 ≤ n := by
  unfold stepD
  split
  · exact ⟨Nat.lt_succ_self _, hi⟩
  · split
    · exact ⟨Nat.lt_succ_self _, hi⟩
    · split
      · exact ⟨Nat.lt_succ_self _, hi⟩
      · split
        · exact ⟨Nat.lt_succ_self _, hi⟩
        · split
          · rename_i k1 k2 k3 k4 k5
            split
            · exact ⟨Nat.lt_succ_self _, hi⟩
            · unfold stB at h
              simp [k5] at h
              exact ⟨by show i < x.b.toNat; omega, by show x.b.toNat ≤ n; omega⟩
          · exact ⟨Nat.lt_succ_self _, hi⟩
set_option maxRecDepth 100000 in
set_option maxHeartbeats 2000000 in
theorem play_any {B : Nat} {c : Cf} {s0 : St} {b gh gr ch : Nat} {e : Int} {dv wv : Value} {w : World} (h : Ma B c s0 b gh gr ch e dv wv w) (hw : Wf c s0) (ps : List In) (v : Value) (hp : Ps B w v ps)
    (hck : ∀ i : Nat, i < ps.length → stB c.g (ps.getD i z0) i ps.length = true) (hn : ps.length ≤ 60) (h0 : s0.rd = []) (h00 : s0.wr = []) :
    Calls Try.prog 20 #[.pointer (some ⟨b, 0, none⟩), v] w fun r w' => ∃ dv' wv', r = .returned (.int .i64 (playD c ps ps.length 0 s0).2) ∧ Ma B c (playD c ps ps.length 0 s0).1 b gh gr ch e dv' wv' w' ∧ Below B w w' ∧ Stay w w' := by
  obtain ⟨n, hnn⟩ : ∃ n, n = ps.length := ⟨_, rfl⟩
  obtain ⟨R, hR⟩ : ∃ R, playD c ps ps.length 0 s0 = R := ⟨_, rfl⟩
  rw [hR]
  have hp0 := hp
  obtain ⟨a, cap, rfl, h1, h2, _⟩ := hp
  have hmax : maxLen = 9223372036854775807 := rfl
  rw [← hnn] at h1 hn hck ⊢
  replace hnn := hide hnn
  have hnl : (n : Int) ≤ 9223372036854775807 := by omega
  replace hp0 := hide hp0
  replace hck := hide hck
  replace hR := hide hR
  have H := hide h
  replace hw := hide hw
  clear h
  go_enter Try.func20, Try.ntmps20
  go_wp2_with fail
  go_loopw [5] (fun i wr => ∃ (k : Nat) (s : St) (f : Nat) (dv wv : Value), k ≤ n ∧ i = .int .i64 k ∧ Below B w wr ∧ Stay w wr ∧ Ma B c s b gh gr ch e dv wv wr ∧ Wf c s ∧ s.rd.length ≤ k ∧ s.wr.length ≤ k ∧ n ≤ k + f ∧ playD c ps f k s = R) (fun i _ => n - (RowKit.intOf i).toNat)
  case atStart => exact ⟨0, s0, n, dv, wv, Nat.zero_le _, rfl, Below.refl _ _, Stay.refl _, unhide H, unhide hw, by rw [h0]; exact Nat.le_refl _, by rw [h00]; exact Nat.le_refl _, by omega, by rw [unhide hnn]; exact unhide hR⟩
  case round =>
    obtain ⟨k, s, f, dv1, wv1, hk, rfl, hb, hsy, hm, hwf, hrd, hwr, hf, hr⟩ := hrel
    clear H hw hR h0 h00
    replace hsy := hide hsy
    by_cases hlt : k < n
    · have kd : decide ((k : Int) < (n : Int)) = true := decide_eq_true (by omega)
      have kl : (k : Int) < (n : Int) := by omega
      obtain ⟨_, _, hv, _, _, h3'⟩ := (unhide hp0).later hb
      cases hv
      rcases h3' with h0 | ⟨pb, off, rfl, hbB, hc⟩
      · have := unhide hnn; omega
      have hI := hc k (by have := unhide hnn; omega)
      have hst := unhide hck k hlt
      obtain ⟨x, hxx⟩ : ∃ x, ps.getD k z0 = x := ⟨_, rfl⟩
      rw [hxx] at hI hst
      obtain ⟨f, rfl⟩ : ∃ g, f = g + 1 := ⟨f - 1, by omega⟩
      rw [playD, if_pos (by have := unhide hnn; omega), hxx] at hr
      obtain ⟨c0, c1, c2, c3, u, c4, hu⟩ := hI
      obtain ⟨ua, ul, uc, rfl⟩ : ∃ ua ul uc, u = .slice ua ul uc := by obtain ⟨ua, ul, uc, e, _⟩ := hu; exact ⟨ua, ul, uc, e⟩
      replace hc := hide hc
      replace hb := hide hb
      replace hxx := hide hxx
      by_cases k6 : x.k = 6
      · rw [if_pos k6] at hr
        rw [k6] at c0
        have r : Hid (R = (s, 2)) := hide hr.symm
        have M := hide hm
        clear hr hm hu hst hwf c1 c2 c3 c4
        go_wp2
        go_ret
        refine ⟨dv1, wv1, ?_, ?_, unhide hb, unhide hsy⟩
        · rw [unhide r]; rfl
        · rw [unhide r]; exact unhide M
      · rw [if_neg k6] at hr
        have b6 : (x.k == 6) = false := by simpa using k6
        by_cases k7 : x.k = 7
        · rw [if_pos k7] at hr
          rw [k7] at c0
          have r : Hid (R = (s, 3)) := hide hr.symm
          have M := hide hm
          clear hr hm hu hst hwf c1 c2 c3 c4 k6 b6
          go_wp2
          go_ret
          refine ⟨dv1, wv1, ?_, ?_, unhide hb, unhide hsy⟩
          · rw [unhide r]; rfl
          · rw [unhide r]; exact unhide M
        · rw [if_neg k7] at hr
          have b7 : (x.k == 7) = false := by simpa using k7
          have kS := step_any hm hwf x ua ul uc k n (hu.up hm.low) hst k6 k7 (by omega) (by omega) (by omega)
          have hat := step_at (c := c) (s := s) hst hlt
          have e1 := step_rd (c := c) (x := x) (i := k) (s := s)
          have e2 := step_wr (c := c) (x := x) (i := k) (s := s)
          have w2 := hwf.step x k
          obtain ⟨k', s', hS⟩ : ∃ k' s', stepD c x k s = (s', k') := ⟨_, _, rfl⟩
          unfold Stepped at kS
          rw [hS] at hr kS hat e1 e2 w2
          replace hr := hide hr
          replace hat := hide hat
          replace e1 := hide e1
          replace e2 := hide e2
          replace w2 := hide w2
          replace hS := hide hS
          unfold iv at kS
          clear hm hu hst hwf
          go_wp2_with fail
          refine kS.mono ?_
          rintro e3 w3 ⟨dv2, wv2, rfl, hm3, hb3, hs3⟩
          have g3 := hide ((unhide hb).trans hb3)
          have y3 := hide ((unhide hsy).trans hs3)
          have M := hide hm3
          clear hb3 hm3 kS hs3
          go_wp2
          go_roundw
          case rel =>
            have q1 := unhide hat
            have q2 := unhide e1
            have q3 := unhide e2
            exact ⟨k', s', f, dv2, wv2, q1.2, rfl, unhide g3, unhide y3, unhide M, unhide w2, by have := q1.1; show s'.rd.length ≤ k'; have q2' : s'.rd.length ≤ s.rd.length + 1 := q2; omega, by have := q1.1; show s'.wr.length ≤ k'; have q3' : s'.wr.length ≤ s.wr.length + 1 := q3; omega, by have : k < k' := q1.1; omega, unhide hr⟩
          case measure =>
            have q1 := (unhide hat).1
            have q2 := (unhide hat).2
            replace q1 : k < k' := q1
            replace q2 : k' ≤ n := q2
            first | omega | (simp; omega) | (simp [RowKit.intOf]; omega)
    · have kd : decide ((k : Int) < (n : Int)) = false := decide_eq_false (by omega)
      rw [play_end (by have := unhide hnn; omega)] at hr
      have r : Hid (R = (s, 1)) := hide hr.symm
      have M := hide hm
      replace hb := hide hb
      clear hr hm hwf
      go_wp2
      go_ret
      refine ⟨dv1, wv1, ?_, ?_, unhide hb, unhide hsy⟩
      · rw [unhide r]; rfl
      · rw [unhide r]; exact unhide M
end Go.Proofs.Ytdhfpfkcbcgnaaa
