/- The truth of a term: the program's Truth, the model's, the law FnExactTruth walked. -/
import Derived.Test.YtmpiadlmkeimdaaTokE
import Derived.Deep.RegionWith
namespace Go.Proofs.Ytmpiadlmkeimdaa
open Go.RowKit Go.Deep

/-- What a term's truth is, and whether it has one: by its kind, its number and its text's length. -/
def trIs (k n : Int) (len : Nat) : Bool := if k = 3 then decide (n ≠ 0) else if k = 2 then decide (0 < len) else false
def trHas (k : Int) : Bool := decide (k = 3) || decide (k = 2)

theorem specL6truth_any (k n s : Int) (a : Option Addr) (len cap : Nat) (w : World) :
    Calls Try.prog 11 #[.agg #[.int .i64 k, .slice a len cap, .int .i64 n, .int .i64 s]] w fun e w' => e = .returned (.tuple #[.bool (trIs k n len), .bool (trHas k)]) ∧ Below w.heap.size w w' := by
  by_cases k3 : k = 3
  · subst k3
    by_cases hn : n = 0
    · subst hn
      go_enter Try.func11, Try.ntmps11
      go_wp2
      go_ret2
      exact ⟨by simp [trIs, trHas], bl_a _⟩
    · have hn' : (n != 0) = true := by simp [hn]
      go_enter Try.func11, Try.ntmps11
      go_wp2
      go_ret2
      exact ⟨by simp [trIs, trHas, hn], bl_a _⟩
  · by_cases k2 : k = 2
    · subst k2
      by_cases hl : 0 < len
      · go_enter Try.func11, Try.ntmps11
        go_wp2
        go_ret2
        exact ⟨by simp [trIs, trHas, hl], bl_a _⟩
      · go_enter Try.func11, Try.ntmps11
        go_wp2
        go_ret2
        exact ⟨by simp [trIs, trHas, hl], bl_a _⟩
    · go_enter Try.func11, Try.ntmps11
      go_wp2
      go_ret2
      exact ⟨by simp [trIs, trHas, k3, k2], bl_a _⟩

theorem specTruth_any (k n s : Int) (a : Option Addr) (len cap : Nat) (bs : List Int) (w : World) (hB : Bs w a len bs) (h1 : -9223372036854775808 ≤ n) (h2 : n ≤ 9223372036854775807) :
    Calls Try.prog 5 #[.agg #[.int .i64 k, .slice a len cap, .int .i64 n, .int .i64 s]] w fun e w' => e = .returned (.tuple #[.bool (termOk k bs n s && trIs k n len), .bool (termOk k bs n s && trHas k)]) ∧ Below w.heap.size w w' := by
  have hT := fun o => specTermOk_any k n s a len cap bs (w.alloc o) (hB.below (bl_a o)) h1 h2
  by_cases hok : termOk k bs n s = true
  · rw [hok] at hT
    have HOK : Hid (termOk k bs n s = true) := hok
    clear hok hB
    go_enter Try.func5, Try.ntmps5
    go_wp2_with fail
    refine (hT _).mono ?_
    rintro e w1 ⟨rfl, o1, rfl⟩
    clear hT
    go_wp2_with fail
    refine (specL6truth_any k n s a len cap _).mono ?_
    rintro e w2 ⟨rfl, hb2⟩
    go_wp2_with fail
    go_ret2
    exact ⟨by rw [HOK.out]; rfl, bl_trans (bl_alloc (bl_a _) _) hb2⟩
  · have hok : termOk k bs n s = false := by simpa using hok
    rw [hok] at hT
    have HOK : Hid (termOk k bs n s = false) := hok
    clear hok hB
    go_enter Try.func5, Try.ntmps5
    go_wp2_with fail
    refine (hT _).mono ?_
    rintro e w1 ⟨rfl, o1, rfl⟩
    clear hT
    go_wp2_with fail
    go_ret2
    exact ⟨by rw [HOK.out]; rfl, bl_alloc (bl_a _) _⟩

/-- The program's three truths, by numbers. -/
def trN (k n : Int) (len : Nat) : Int := if k = 3 then (if n = 0 then 0 else 2) else if k = 2 then (if len = 0 then 0 else 2) else 1
theorem trN_yes (k n : Int) (len : Nat) : decide (trN k n len = 2) = trIs k n len := by
  unfold trN trIs
  by_cases k3 : k = 3
  · by_cases hn : n = 0 <;> simp [k3, hn]
  · by_cases k2 : k = 2
    · by_cases hl : len = 0
      · simp [k2, hl]
      · have : 0 < len := by omega
        simp [k2, hl, this]
    · simp [k3, k2]
theorem trN_has (k n : Int) (len : Nat) : decide (trN k n len ≠ 1) = trHas k := by
  unfold trN trHas
  by_cases k3 : k = 3
  · by_cases hn : n = 0 <;> simp [k3, hn]
  · by_cases k2 : k = 2
    · by_cases hl : len = 0 <;> simp [k2, hl]
    · simp [k3, k2]
theorem implAnswer_yes (w : World) : Calls Try.prog 22 #[.bool true] w fun e w' => e = .returned (.int .i64 2) ∧ w' = w := by
  go_enter Try.func22, Try.ntmps22
  go_wp2
  go_ret
  exact ⟨rfl, rfl⟩
theorem implAnswer_no (w : World) : Calls Try.prog 22 #[.bool false] w fun e w' => e = .returned (.int .i64 0) ∧ w' = w := by
  go_enter Try.func22, Try.ntmps22
  go_wp2
  go_ret
  exact ⟨rfl, rfl⟩
theorem truthOf_any (k n s : Int) (a : Option Addr) (len cap : Nat) (w : World) :
    Calls Try.prog 14 #[.agg #[.int .i64 k, .slice a len cap, .int .i64 n, .int .i64 s]] w fun e w' => e = .returned (.int .i64 (trN k n len)) ∧ Below w.heap.size w w' := by
  by_cases k3 : k = 3
  · subst k3
    by_cases hn : n = 0
    · subst hn
      go_enter Try.func14, Try.ntmps14
      go_wp2_with fail
      refine (implAnswer_no _).mono ?_
      rintro e w1 ⟨rfl, rfl⟩
      go_wp2
      go_ret
      exact ⟨by simp [trN], bl_a _⟩
    · have HN : Hid (n ≠ 0) := hn
      have hn' : (n != 0) = true := by simp [hn]
      go_enter Try.func14, Try.ntmps14
      go_wp2_with fail
      refine (implAnswer_yes _).mono ?_
      rintro e w1 ⟨rfl, rfl⟩
      go_wp2
      go_ret
      exact ⟨by simp [trN, HN.out], bl_a _⟩
  · by_cases k2 : k = 2
    · subst k2
      by_cases hl : len = 0
      · subst hl
        go_enter Try.func14, Try.ntmps14
        go_wp2_with fail
        refine (implAnswer_no _).mono ?_
        rintro e w1 ⟨rfl, rfl⟩
        go_wp2
        go_ret
        exact ⟨by simp [trN], bl_a _⟩
      · have hl' : 0 < len := by omega
        have HL : Hid (len ≠ 0) := hl
        go_enter Try.func14, Try.ntmps14
        go_wp2_with fail
        refine (implAnswer_yes _).mono ?_
        rintro e w1 ⟨rfl, rfl⟩
        go_wp2
        go_ret
        exact ⟨by simp [trN, HL.out], bl_a _⟩
    · go_enter Try.func14, Try.ntmps14
      go_wp2
      go_ret
      exact ⟨by simp [trN, k3, k2], bl_a _⟩

theorem implTruth_any (k n s : Int) (a : Option Addr) (len cap : Nat) (bs : List Int) (w : World) (hB : Bs w a len bs) (h1 : -9223372036854775808 ≤ n) (h2 : n ≤ 9223372036854775807) (h3 : -9223372036854775808 ≤ s) (h4 : s ≤ 9223372036854775807) :
    Calls Try.prog 7 #[.agg #[.int .i64 k, .slice a len cap, .int .i64 n, .int .i64 s]] w fun e w' => e = .returned (.tuple #[.bool (termOk k bs n s && trIs k n len), .bool (termOk k bs n s && trHas k)]) ∧ Below w.heap.size w w' := by
  have hT := fun o => implTermOk_any k n s a len cap bs (w.alloc o) (hB.below (bl_a o)) h1 h2 h3 h4
  by_cases hok : termOk k bs n s = true
  · rw [hok] at hT
    have HOK : Hid (termOk k bs n s = true) := hok
    obtain ⟨t, ht⟩ : ∃ t, t = trN k n len := ⟨_, rfl⟩
    have HT : Hid (t = trN k n len) := ht
    have hO := fun w => truthOf_any k n s a len cap w
    rw [← ht] at hO
    have e1 : trIs k n len = decide (t = 2) := by rw [ht]; exact (trN_yes k n len).symm
    have e2 : trHas k = decide (t ≠ 1) := by rw [ht]; exact (trN_has k n len).symm
    rw [hok, e1, e2]
    clear hok hB ht e1 e2
    go_enter Try.func7, Try.ntmps7
    go_wp2_with fail
    refine (hT _).mono ?_
    rintro e w1 ⟨rfl, hb1⟩
    obtain ⟨c0, c1, c2, c3, c4⟩ := (At4.new w (.int .i64 k) (.slice a len cap) (.int .i64 n) (.int .i64 s) _).below hb1
    clear hT
    go_wp2_with fail
    refine (hO _).mono ?_
    rintro e w2 ⟨rfl, hb2⟩
    go_wp2_with fail
    all_goals (go_ret2; exact ⟨by first | rfl | (by_cases t2 : t = 2 <;> by_cases t1 : t = 1 <;> simp_all), bl_trans (bl_trans (bl_a _) hb1) hb2⟩)
  · have hok : termOk k bs n s = false := by simpa using hok
    rw [hok] at hT
    have HOK : Hid (termOk k bs n s = false) := hok
    clear hok hB
    go_enter Try.func7, Try.ntmps7
    go_wp2_with fail
    refine (hT _).mono ?_
    rintro e w1 ⟨rfl, hb1⟩
    clear hT
    go_wp2_with fail
    go_ret2
    exact ⟨by rw [HOK.out]; rfl, bl_trans (bl_a _) hb1⟩
end Go.Proofs.Ytmpiadlmkeimdaa
