/- The contract of the model's l1compare. -/
import Derived.Test.YtjhobhkdncdnaaaCmpE
namespace Go.Proofs.Ytjhobhkdncdnaaa
open Go.RowKit Go.Deep

theorem Bs.str {w : World} {a : Option Addr} {len cap : Nat} {bs : List Int} (h : Bs w a len bs) : (convert 22 9 (.slice a len cap)).run Try.prog w = .ok (.string (strOfNums bs)) w := by
  obtain ⟨hl, _, _, h4⟩ := h
  rcases h4 with h4 | ⟨b, off, rfl, _, hc⟩
  · subst h4
    have e : bs = [] := List.eq_nil_of_length_eq_zero hl
    subst e
    cases a with
    | none =>
      rw [run_convert_bytes_nil w 22 5 Try.underlying22 Try.underlying5 0 cap 9 Try.underlying9]
      rfl
    | some x =>
      have hl : (loadCells x 0).run Try.prog w = .ok (([] : List Int).map (Value.int .u8)).toArray w := rfl
      rw [run_convert_bytes_string w 22 9 5 _ 0 cap Try.underlying22 Try.underlying5 Try.underlying9, run_bytesToString w _ 0 cap [] hl]
      rfl
  · exact run_convert_bytes_arg w 22 5 Try.underlying22 Try.underlying5 b off len cap bs hl (fun i hi => by rw [hc i hi, List.getD_eq_getElem?_getD]) 9 Try.underlying9

theorem sideI_str (bs bs' : List Int) : sideI (Op.bytesLess (strOfNums bs).toList (strOfNums bs').toList) (!Op.bytesLess (strOfNums bs).toList (strOfNums bs').toList && !((strOfNums bs).toList == (strOfNums bs').toList)) = cmpB bs bs' := by
  unfold cmpB
  rw [less_cmp, Lib.strOfNums_toList, Lib.strOfNums_toList]
  rfl

theorem termOk_blank {n s : Int} {bs : List Int} (h : termOk 1 bs n s = true) : bs = [] ∧ s = 0 := by
  simp [termOk] at h
  exact ⟨h.1.1.1, h.2⟩
theorem termOk_num {n s : Int} {bs : List Int} (h : termOk 3 bs n s = true) : bs = [] := by
  simp [termOk] at h
  exact h.1
theorem termOk_str {k n s : Int} {bs : List Int} (h : termOk k bs n s = true) (h1 : k ≠ 1) (h3 : k ≠ 3) : n = 0 ∧ s = 0 := by
  by_cases k0 : k = 0
  · subst k0
    simp [termOk] at h
    exact ⟨h.1.2, h.2⟩
  by_cases k2 : k = 2
  · subst k2
    simp [termOk] at h
    exact ⟨h.1.2, h.2⟩
  · simp [termOk, k0, h1, k2, h3] at h
theorem cmpI_ne {x y : Int} (h : x ≠ y) : cmpI x y ≠ 0 := by
  unfold cmpI
  split
  · decide
  · split
    · decide
    · omega

end Go.Proofs.Ytjhobhkdncdnaaa
