/- The reference's Peek. -/
import Derived.Test.YtmaofephcfnlhaaRefByte
import Derived.Test.YtmaofephcfnlhaaStructs
import Derived.Deep.RegionHeld3
namespace Go.Proofs.Ytmaofephcfnlhaa
open Go.RowKit

theorem rpeek_any (b r n : Nat) (f : Nat → Int) (c a : Int) (w : World) (h : Cel 44 w b r n f c) :
    Calls Try.prog 25 #[.pointer (some ⟨b, 0, none⟩), .int .i64 a] w fun e w' => e = .returned (.int .i64 (wordD n f a)) ∧ w' = w := by
  have h0 := h.cell0
  have hm := h.most
  unfold wordD
  rcases hb : hasB n a
  · have hn := hasB_no.1 hb
    by_cases q : a < 0
    · clear hn
      go_enter Try.func25, Try.ntmps25
      go_wp2
      go_ret
      exact ⟨rfl, rfl⟩
    · have q1 : decide (a < 0) = false := decide_eq_false q
      have q2 : (n : Int) ≤ a := by omega
      clear hn
      go_enter Try.func25, Try.ntmps25
      go_wp2
      go_ret
      exact ⟨rfl, rfl⟩
  · obtain ⟨g0, g1⟩ := hasB_iff.1 hb
    obtain ⟨k, rfl⟩ := Int.eq_ofNat_of_zero_le g0
    have hk : k < n := by omega
    have hw := h.word hk
    have q1 : decide ((k : Int) < 0) = false := decide_eq_false (by omega)
    have q2 : decide ((n : Int) ≤ (k : Int)) = false := decide_eq_false (by omega)
    have q3 : decide (n ≤ k) = false := decide_eq_false (by omega)
    go_enter Try.func25, Try.ntmps25
    go_wp2
    go_ret
    exact ⟨rfl, rfl⟩
theorem op_cells {w w' : World} {g : Nat} {vs : Array Value} {t : TypeId} (h : w.heap[g]? = some (.cells vs t (0, 0))) (e : w'.heap[g]? = w.heap[g]?) (i : Nat) : w'.cell? ⟨g, i, none⟩ = vs[i]? := by
  simp [World.cell?, e, h]
end Go.Proofs.Ytmaofephcfnlhaa
