/- The variables that the library reads; line of package prog. -/
import Derived.Test.YtanieihnkajpdaaDoorBuild
import Derived.Test.YtanieihnkajpdaaDoorStand
import Derived.Test.YtanieihnkajpdaaDoorDec
import Derived.Lib.AppendIntMem
import Derived.Lib.AtoiErrMem
namespace Go.Proofs.YtanieihnkajpdaaDoor
open Go.RowKit
open Go.Lib hiding intOf

/-- What the library's variables hold. -/
structure Vr (w : World) : Prop where
  syn : ∃ tp p, w.var? Tryd.prog "strconv.ErrSyntax" = some #[.iface tp p]
  rng : ∃ tp p, w.var? Tryd.prog "strconv.ErrRange" = some #[.iface tp p]
  tab : Lib.TabIs Tryd.prog w "internal/strconv.uint64pow10" .u64 Lib.pow10Tab
  mx : ∃ m, w.cell? ⟨1, 0, none⟩ = some (.int .i64 m)
theorem var_next {w w' : World} {n : String} {cs : Array Value} (h : w.var? Tryd.prog n = some cs) (hb : Below w.heap.size w w') : w'.var? Tryd.prog n = some cs := by
  unfold World.var? at h ⊢
  cases hg : Tryd.prog.globalNamed n with
  | none => rw [hg] at h; cases h
  | some g =>
    rw [hg] at h
    simp only [Option.bind_some] at h ⊢
    have hlt : g < w.heap.size := by
      by_cases hl : g < w.heap.size
      · exact hl
      · rw [Array.getElem?_eq_none (by omega)] at h; cases h
    rw [hb.block g hlt]
    exact h
theorem Vr.next {w w' : World} (h : Vr w) (hb : Below w.heap.size w w') : Vr w' := by
  obtain ⟨⟨t1, p1, h1⟩, ⟨t2, p2, h2⟩, h3, m, h4⟩ := h
  have hlt : 1 < w.heap.size := by
    by_cases hl : 1 < w.heap.size
    · exact hl
    · simp [World.cell?, Array.getElem?_eq_none (show w.heap.size ≤ 1 by omega)] at h4
  exact ⟨⟨t1, p1, var_next h1 hb⟩, ⟨t2, p2, var_next h2 hb⟩, var_next h3 hb, m, (hb.cell hlt).trans h4⟩

theorem heap_lt {w : World} {g : Nat} {o : Obj} (h : w.heap[g]? = some o) : g < w.heap.size := by
  by_cases hl : g < w.heap.size
  · exact hl
  · rw [Array.getElem?_eq_none (by omega)] at h; cases h
theorem own_next {w w' : World} {B : Nat} {e : TypeId} {size n : Nat} {v : Value} {xs : List Value} (h : w.ownsRow B e size v n xs) (hb : Below w.heap.size w w') : w'.ownsRow B e size v n xs := by
  refine ⟨h.1, ?_⟩
  rcases h.2 with h0 | ⟨g, cap, cur, hv, hB, hg, r⟩
  · exact .inl h0
  · exact .inr ⟨g, cap, cur, hv, hB, (hb.block g (heap_lt hg)).trans hg, r⟩
theorem builder_next {w w' : World} {B b : Nat} {p : Value} {bs : List Value} (h : BuilderAt 61 5 B b p bs w) (hb : Below w.heap.size w w') : BuilderAt 61 5 B b p bs w' := by
  obtain ⟨hB, v, hbk, hown, hne⟩ := h
  exact ⟨hB, v, (hb.block b (heap_lt hbk)).trans hbk, own_next hown hb, hne⟩
theorem ls_len {B : Nat} {w : World} {v : Value} {l : List Int} (h : Ls B w v l) : ∃ a cap, v = .slice a l.length cap ∧ l.length ≤ cap ∧ cap ≤ maxLen ∧ (a = none → cap = 0) ∧ SegB .i64 B w a l.length l := by
  obtain ⟨a, len, cap, rfl, h1, h2, h4, h3⟩ := h
  have := h3.1
  subst this
  exact ⟨a, cap, rfl, h1, h2, h4, h3⟩
theorem bytes_size (l : List UInt8) : (⟨l.toArray⟩ : ByteArray).size = l.length := by
  show l.toArray.size = _
  simp
set_option maxRecDepth 100000 in
set_option maxHeartbeats 1000000 in
theorem line_any (f : List UInt8) (ns : List Int) (v : Value) (w : World) (hv : Ls w.heap.size w v ns) (hf : f.length ≤ 1000) (hn : ns.length ≤ 1000) (hi : ∀ n ∈ ns, I64 n) (hr : Vr w) :
    Calls Tryd.prog 24 #[.string ⟨f.toArray⟩, v] w fun e w' => e = .returned (.string ⟨(lineD f ns).toArray⟩) ∧ Below w.heap.size w w' := by
  obtain ⟨len, hlen⟩ : ∃ len, len = ns.length := ⟨_, rfl⟩
  obtain ⟨a, cap, rfl, h1, h2, _, h3⟩ := ls_len hv
  have hmax : maxLen = 9223372036854775807 := rfl
  rw [← hlen] at h1 h3 hn ⊢
  replace hlen := hide hlen
  have hnl : (len : Int) ≤ 9223372036854775807 := by omega
  have hB := fresh_isBuilder 61 5 w
  have b1 := below_new w (.cells #[.pointer none, .slice none 0 0] 61)
  replace hi := hide hi
  replace h3 := hide h3
  replace hr := hide hr
  replace b1 := hide b1
  replace hB := hide hB
  clear hv
  go_enter Tryd.func24, Tryd.ntmps24
  go_wp2_with fail
  refine (writeString_any w.heap.size w.heap.size [] ⟨f.toArray⟩ _ (unhide hB) (by rw [bytes_size]; simp; omega) (by simp)).mono ?_
  rintro e w1 ⟨rfl, hB1, hb1⟩
  have b2 := hide ((unhide b1).trans hb1)
  have hB2 : IsBuilder 61 5 w.heap.size w.heap.size (byteCells (lineD f (ns.take 0))) w1 := .inr (by
    have e : byteCells (lineD f (ns.take 0)) = [] ++ strCells ⟨f.toArray⟩ := by simp [lineD, strCells_toArray]
    rw [e]; exact hB1)
  replace hB2 := hide hB2
  clear hB b1 hb1 hB1
  go_wp2_with fail
  go_loopw [12] (fun i wr => ∃ k : Nat, k ≤ len ∧ i = .int .i64 k ∧ Below w.heap.size w wr ∧ IsBuilder 61 5 w.heap.size w.heap.size (byteCells (lineD f (ns.take k))) wr) (fun i _ => len - (intOf i).toNat)
  case atStart => exact ⟨0, Nat.zero_le _, rfl, unhide b2, unhide hB2⟩
  case round =>
    obtain ⟨k, hk, rfl, hb, hB⟩ := hrel
    clear b2 hB2
    by_cases hlt : k < len
    · have kd : decide ((k : Int) < (len : Int)) = true := decide_eq_true (by omega)
      have kl : (k : Int) < (len : Int) := by omega
      obtain ⟨ab, ao, rfl, hab, hcell⟩ := ((unhide h3).later hb).at hlt
      obtain ⟨y, hy⟩ : ∃ y, ns.getD k 0 = y := ⟨_, rfl⟩
      rw [hy] at hcell
      have hyi : I64 y := by
        rw [← hy]
        have hk2 : k < ns.length := by have := unhide hlen; omega
        have : ns.getD k 0 = ns[k] := by simp [hk2]
        rw [this]
        exact unhide hi _ (List.getElem_mem hk2)
      have hL := line_len (f := f) (ns := ns.take k) (fun n hn => unhide hi n (List.mem_of_mem_take hn))
      have hL2 : (lineD f (ns.take k)).length ≤ 23000 := by
        have : (ns.take k).length ≤ k := by simp; omega
        omega
      clear hL
      have hS := hide (line_snoc (f := f) (ns := ns) (k := k) (by have := unhide hlen; omega))
      replace hyi := hide hyi
      replace hy := hide hy
      have hs0 := hb.size
      have hb0 := hide hb
      clear hb
      go_wp2_with fail
      refine (writeString_any w.heap.size w.heap.size _ ⟨#[32]⟩ _ hB (by rw [byteCells_length]; show _ + 1 ≤ _; omega) hs0).mono ?_
      rintro e w3 ⟨rfl, hB3, hb3⟩
      have b3 := hide ((unhide hb0).trans hb3)
      replace hB3 := hide hB3
      have hr3 := hide ((unhide hr).next ((unhide hb0).trans hb3))
      clear hB hb3 hcell hb0
      go_wp2_with fail
      refine (Tryd.strconv_Itoa y (unhide hyi).1 (unhide hyi).2 w3 (unhide hr3).tab).mono ?_
      rintro e w4 ⟨rfl, q, os, hw4⟩
      have hb4 : Below w3.heap.size w3 w4 := by rw [hw4]; exact below_grow _ _ (Nat.le_refl _) _ _
      clear hw4
      have b4 := hide (below_then (unhide b3) hb4)
      have hB4 : IsBuilder 61 5 w.heap.size w.heap.size (byteCells (lineD f (ns.take k) ++ [32])) w4 := .inr (by
        have := builder_next (unhide hB3) hb4
        rw [byteCells_append]; exact this)
      have hI := itoa_length_le y (unhide hyi).1 (unhide hyi).2
      have hs4 := (unhide b4).size
      clear hB3 b3 hb4 hr3
      go_wp2_with fail
      refine (writeString_any w.heap.size w.heap.size _ ⟨(itoa y).toArray⟩ _ hB4 (by rw [byteCells_length, bytes_size]; simp; omega) hs4).mono ?_
      rintro e w5 ⟨rfl, hB5, hb5⟩
      have b5 := hide ((unhide b4).trans hb5)
      have hB6 : IsBuilder 61 5 w.heap.size w.heap.size (byteCells (lineD f (ns.take (k + 1)))) w5 := .inr (by
        rw [unhide hS, unhide hy, byteCells_append]; exact hB5)
      replace hB6 := hide hB6
      clear hB5 hb5 b4 hB4
      go_wp2
      go_roundw
      case rel => exact ⟨k + 1, by omega, by go_num, unhide b5, unhide hB6⟩
      case measure => first | omega | (simp; omega) | (simp [RowKit.intOf]; omega)
    · have kd : decide ((k : Int) < (len : Int)) = false := decide_eq_false (by omega)
      have e1 : ns.take k = ns := List.take_of_length_le (by have := unhide hlen; omega)
      rw [e1] at hB
      have hs0 := hb.size
      replace hb := hide hb
      go_wp2_with fail
      refine (Tryd.Builder_String_any w.heap.size w.heap.size (lineD f ns) _ hB hs0).mono ?_
      rintro e w6 ⟨rfl, hb6⟩
      have b6 := hide ((unhide hb).trans hb6)
      clear hb6 hB
      go_wp2
      go_ret
      exact ⟨rfl, unhide b6⟩
end Go.Proofs.YtanieihnkajpdaaDoor
