/- A slice that the call itself has made, by append, as the walks read it. -/
import Derived.Test.YtkmcblhngnebpaaParts
namespace Go.Proofs.Ytkmcblhngnebpaa
open Go.RowKit

theorem Try.info3 : (Try.prog.info? 3).map (fun i => (i.zero, i.size, i.bytes)) = some (some (.int .i64 0), 1, 8) := by kernel_rfl

theorem addr_add (b off i : Nat) : (⟨b, off, none⟩ : Addr).add i = ⟨b, off + i, none⟩ := by
  by_cases h : i = 0 <;> simp [Addr.add, h]
/-- What is owned can be read. -/
theorem owns_seg {w : World} {base : Nat} {v : Value} {n : Nat} {l : List Int} (h : w.ownsRow base 3 1 v n (l.map (Value.int .i64))) :
    ∃ a cap, v = .slice a n cap ∧ n ≤ cap ∧ cap ≤ maxLen ∧ Seg w a n l := by
  have hl : l.length = n := by simpa using h.1
  rcases h.2 with ⟨rfl, rfl⟩ | ⟨g, cap, cur, rfl, _, hg, hnc, hcm, _, _⟩
  · exact ⟨none, 0, rfl, Nat.le_refl _, Nat.zero_le _, hl, .inl rfl⟩
  · refine ⟨_, cap, rfl, hnc, hcm, hl, .inr ⟨g, 0, rfl, fun i hi => ?_⟩⟩
    have := h.cells (g := g) rfl i (.int .i64 (l.getD i 0)) (by
      rw [List.getElem?_map, List.getElem?_eq_getElem (by omega)]; simp [List.getD, hl, hi])
    rwa [addr_add] at this
/-- The cells of a slice that is read, as append asks for them. -/
theorem seg_news {w : World} {b off len : Nat} {l : List Int} (hs : Seg w (some ⟨b, off, none⟩) len l) :
    ∀ j u, (l.map (Value.int .i64))[j]? = some u → w.cell? ((⟨b, off, none⟩ : Addr).add j) = some u := by
  intro j u hj
  rw [List.getElem?_map] at hj
  have hjl : j < l.length := by
    rcases Nat.lt_or_ge j l.length with h | h
    · exact h
    · rw [List.getElem?_eq_none (by omega)] at hj; simp at hj
  rw [List.getElem?_eq_getElem hjl] at hj
  obtain rfl : Value.int .i64 l[j] = u := by simpa using hj
  rcases hs.2 with h | ⟨b', off', he, hc⟩
  · have := hs.1; omega
  · obtain ⟨rfl, rfl⟩ : b = b' ∧ off = off' := by simpa using he
    rw [addr_add, hc j (by rw [← hs.1]; exact hjl), getD_at l j hjl]
theorem news_len (l : List Int) (n : Nat) (h : l.length = n) : (l.map (Value.int .i64)).length = n * 1 := by simp [h]
theorem owns_empty (w : World) (base : Nat) (hb : base ≤ w.heap.size) : (w.alloc (.cells #[] 3)).ownsRow base 3 1 (.slice (some ⟨w.heap.size, 0, none⟩) 0 0) 0 (([] : List Int).map (Value.int .i64)) :=
  World.ownsRow_made w #[] 0 hb (Nat.zero_le _) rfl
end Go.Proofs.Ytkmcblhngnebpaa
