/- The walk of ModeTells. -/
import Derived.Test.YtjbhakimakfliaaFits
import Derived.Test.YtjbhakimakfliaaRow
namespace Go.Proofs.Ytjbhakimakfliaa
open Go.RowKit

theorem modeTells_walk (a b : Int) (x : Option Addr) (len cap : Nat) (l : List Int) (w : World) (_ : (Lit.int .i64 a).wf = true) (_ : (Lit.int .i64 b).wf = true) (hs : SegK .i64 w x len l) (hlc : len ≤ cap) (hm : cap ≤ maxLen) (_ : ∀ n ∈ l, (Lit.int .i64 n).wf = true) :
    Calls Try.prog 3 #[.int .i64 a, .int .i64 b, .slice x len cap] w fun e w' => e = .returned (.bool true) ∧ Below w.heap.size w w' := by
  have hlm : len ≤ maxLen := Nat.le_trans hlc hm
  have Hlm := hide hlm
  have Hs := hide hs
  clear hlm hm hs hlc
  go_enter Try.func3, Try.ntmps3
  go_wp2_with fail
  refine (first_any _).mono ?_
  rintro e w1 ⟨rfl, hb⟩
  have Hl := hide hb
  clear hb
  rcases Nat.lt_or_ge 100 len with hlen | hlen
  · have hd : decide ((100 : Int) < len) = true := decide_eq_true (by omega)
    go_wp2_with fail
    refine (first_any _).mono ?_
    rintro e w1 ⟨rfl, hb⟩
    go_wp2
    go_ret
    exact ⟨rfl, below_then (unhide Hl) hb⟩
  have hd : decide ((100 : Int) < len) = false := decide_eq_false (by omega)
  go_wp2_with fail
  refine (first_any _).mono ?_
  rintro e w1 ⟨rfl, hb⟩
  replace Hl := hide (below_then (unhide Hl) hb)
  clear hb
  go_wp2_with fail
  refine (known_any a _).mono ?_
  rintro e w' ⟨rfl, rfl⟩
  go_wp2_with fail
  refine (mode_any a _).mono ?_
  rintro e w' ⟨rfl, rfl⟩
  go_wp2_with fail
  refine (fits_any a b _).mono ?_
  rintro e w1 ⟨rfl, hb⟩
  replace Hl := hide (below_then (unhide Hl) hb)
  clear hb
  go_wp2_with fail
  refine (rfits_any a b _).mono ?_
  rintro e w1 ⟨rfl, hb⟩
  replace Hl := hide (below_then (unhide Hl) hb)
  clear hb
  go_wp2_with fail
  refine (covers_any a b _).mono ?_
  rintro e w1 ⟨rfl, hb⟩
  replace Hl := hide (below_then (unhide Hl) hb)
  clear hb
  go_wp2_with fail
  refine (rcovers_any a b _).mono ?_
  rintro e w1 ⟨rfl, hb⟩
  replace Hl := hide (below_then (unhide Hl) hb)
  clear hb
  go_wp2_with fail
  refine (sup_any _ _ _ l _ ((unhide Hs).later (unhide Hl)) (unhide Hlm)).mono ?_
  rintro e w' ⟨rfl, rfl⟩
  go_wp2_with fail
  refine (rsup_any _ _ _ l _ ((unhide Hs).later (unhide Hl)) (unhide Hlm)).mono ?_
  rintro e w' ⟨rfl, rfl⟩
  go_wp2_with fail
  refine (intent_any a _).mono ?_
  rintro e w' ⟨rfl, rfl⟩
  go_wp2_with fail
  refine (rintent_any a _).mono ?_
  rintro e w' ⟨rfl, rfl⟩
  go_wp2_with fail
  refine (reads_any a _).mono ?_
  rintro e w1 ⟨rfl, hb⟩
  replace Hl := hide (below_then (unhide Hl) hb)
  clear hb
  go_wp2_with fail
  refine (rreads_any a _).mono ?_
  rintro e w' ⟨rfl, rfl⟩
  go_wp2_with fail
  refine (writes_any a _).mono ?_
  rintro e w1 ⟨rfl, hb⟩
  replace Hl := hide (below_then (unhide Hl) hb)
  clear hb
  go_wp2_with fail
  refine (rwrites_any a _).mono ?_
  rintro e w' ⟨rfl, rfl⟩
  go_wp2
  go_ret
  exact ⟨rfl, unhide Hl⟩
end Go.Proofs.Ytjbhakimakfliaa
