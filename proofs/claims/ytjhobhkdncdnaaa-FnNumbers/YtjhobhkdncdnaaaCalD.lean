/- The contracts of the program's calc, isNumber and Calc. -/
import Derived.Test.YtjhobhkdncdnaaaCalC
import Derived.Test.YtjhobhkdncdnaaaTokE
namespace Go.Proofs.Ytjhobhkdncdnaaa
open Go.RowKit Go.Deep

/-- A struct of two fields, of the call's own, at the head of block b. -/
def Own2 (w : World) (b : Nat) (v0 v1 : Value) : Prop :=
  b < w.heap.size ∧ w.cell? ⟨b, 0, none⟩ = some v0 ∧ w.cell? ⟨b, 1, none⟩ = some v1 ∧ w.frozen? ⟨b, 0, none⟩ = false ∧ w.frozen? ⟨b, 1, none⟩ = false
theorem Own2.below {w w' : World} {b : Nat} {v0 v1 : Value} (h : Own2 w b v0 v1) (hb : Below w.heap.size w w') : Own2 w' b v0 v1 := by
  obtain ⟨hl, h0, h1, f0, f1⟩ := h
  exact ⟨Nat.lt_of_lt_of_le hl hb.size, (hb.cell (p := ⟨b, 0, none⟩) hl).trans h0, (hb.cell (p := ⟨b, 1, none⟩) hl).trans h1, (hb.frozen (p := ⟨b, 0, none⟩) hl).trans f0, (hb.frozen (p := ⟨b, 1, none⟩) hl).trans f1⟩
theorem Own2.at (w : World) (b : Nat) (v0 v1 : Value) (t : TypeId) (e : b = w.heap.size) : Own2 (w.alloc (.cells #[v0, v1] t)) b v0 v1 := by
  subst e
  refine ⟨by simp, ?_, ?_, ?_, ?_⟩ <;> simp [go_sem]
/-- .. of four. -/
def Own4 (w : World) (b : Nat) (v0 v1 v2 v3 : Value) : Prop :=
  At4 w b v0 v1 v2 v3 ∧ w.frozen? ⟨b, 0, none⟩ = false ∧ w.frozen? ⟨b, 1, none⟩ = false ∧ w.frozen? ⟨b, 2, none⟩ = false ∧ w.frozen? ⟨b, 3, none⟩ = false
theorem Own4.below {w w' : World} {b : Nat} {v0 v1 v2 v3 : Value} (h : Own4 w b v0 v1 v2 v3) (hb : Below w.heap.size w w') : Own4 w' b v0 v1 v2 v3 := by
  obtain ⟨h4, f0, f1, f2, f3⟩ := h
  have hl := h4.1
  exact ⟨h4.below hb, (hb.frozen (p := ⟨b, 0, none⟩) hl).trans f0, (hb.frozen (p := ⟨b, 1, none⟩) hl).trans f1, (hb.frozen (p := ⟨b, 2, none⟩) hl).trans f2, (hb.frozen (p := ⟨b, 3, none⟩) hl).trans f3⟩
theorem Own4.at (w : World) (b : Nat) (v0 v1 v2 v3 : Value) (t : TypeId) (e : b = w.heap.size) : Own4 (w.alloc (.cells #[v0, v1, v2, v3] t)) b v0 v1 v2 v3 := by
  subst e
  refine ⟨At4.new w v0 v1 v2 v3 t, ?_, ?_, ?_, ?_⟩ <;> simp [go_sem]

/-- What is reckoned, as a number's parts: (0, 7) is none. -/
def calcP (op n : Int) (s : Nat) (n' : Int) (s' : Nat) : Int × Int :=
  if op = 0 then (if prodOk n (p10 (max s s' - s)) && prodOk n' (p10 (max s s' - s')) then norm (max s s') (prodV n (p10 (max s s' - s)) + prodV n' (p10 (max s s' - s'))) else (0, 7))
  else if op = 1 then (if prodOk n (p10 (max s s' - s)) && prodOk n' (p10 (max s s' - s')) then norm (max s s') (prodV n (p10 (max s s' - s)) - prodV n' (p10 (max s s' - s'))) else (0, 7))
  else if op = 2 then (if prodOk n n' then norm (s + s') (prodV n n') else (0, 7))
  else if op = 3 then (if prodOk (absI n) (p10 (6 - s)) && prodOk (absI n') (p10 (6 - s')) && (n' != 0) && quotOk (prodV (absI n) (p10 (6 - s))) (prodV (absI n') (p10 (6 - s'))) then norm 6 (overV n n' (prodV (absI n) (p10 (6 - s))) (prodV (absI n') (p10 (6 - s')))) else (0, 7))
  else (0, 7)

/-- What calc hands on. -/
def CalcRes (op n : Int) (s : Nat) (n' : Int) (s' : Nat) (e : Ending) : Prop :=
  ∃ (N S : Int) (fits : Bool), e = .returned (.tuple #[.agg #[.int .i64 N, .int .i64 S], .bool fits]) ∧
    (fits = true → ∃ t : Nat, S = t ∧ t ≤ 12 ∧ -9223372036854775808 ≤ N ∧ N ≤ 9223372036854775807 ∧ calcP op n s n' s' = norm t N) ∧ (fits = false → calcP op n s n' s' = (0, 7))

set_option maxHeartbeats 1000000 in
theorem calc_any (op n n' : Int) (s s' : Nat) (w : World) (h1 : -1000000000000000 ≤ n) (h2 : n ≤ 1000000000000000) (h1' : -1000000000000000 ≤ n') (h2' : n' ≤ 1000000000000000) (hs : s ≤ 6) (hs' : s' ≤ 6) :
    Calls Try.prog 23 #[.agg #[.int .i64 n, .int .i64 s], .int .i64 op, .agg #[.int .i64 n', .int .i64 s']] w fun e w' => CalcRes op n s n' s' e ∧ Below w.heap.size w w' := by
  by_cases o0 : op = 0
  · subst o0
    have sb := sum_bound n n' s s' h1 h2 h1' h2'
    have Pl := fun w => plus_any n n' s s' w h1 h2 h1' h2' hs hs'
    have C : ∀ (x : Int) (b : Bool), x = prodV n (p10 (max s s' - s)) + prodV n' (p10 (max s s' - s')) → b = (prodOk n (p10 (max s s' - s)) && prodOk n' (p10 (max s s' - s'))) → CalcRes 0 n s n' s' (.returned (.tuple #[.agg #[.int .i64 x, .int .i64 ((max s s' : Nat) : Int)], .bool b])) := by
      intro x b hx hb
      refine ⟨x, _, b, rfl, fun h => ⟨max s s', rfl, by omega, by omega, by omega, ?_⟩, fun h => ?_⟩
      · unfold calcP; rw [if_pos rfl, ← hb, if_pos h, ← hx]
      · unfold calcP; rw [if_pos rfl, ← hb, if_neg (by simp [h])]
    generalize prodV n (p10 (max s s' - s)) + prodV n' (p10 (max s s' - s')) = x at *
    generalize (prodOk n (p10 (max s s' - s)) && prodOk n' (p10 (max s s' - s'))) = b at *
    have C := C x b rfl rfl
    go_enter Try.func23, Try.ntmps23
    go_wp2_with fail
    refine (Pl _).mono ?_
    rintro e w1 ⟨rfl, hb1⟩
    have hR := (Own2.at ((w.alloc _).alloc _) (w.heap.size + 1 + 1) _ _ _ (by simp)).below hb1
    obtain ⟨r0, r1, r2, r3, r4⟩ := id hR
    have hw1 := bl_trans (bl_alloc (bl_alloc (bl_a _) _) _) hb1
    clear hb1 Pl
    go_wp2
    refine bodyPost_ret (v := .tuple #[.agg #[.int .i64 x, .int .i64 ((max s s' : Nat) : Int)], .bool b]) (by simp [results, Try.results23, go_sem, *]) rfl ⟨C, ?_⟩
    exact bl_set (bl_set hw1 (by dsimp only; omega) _) (by dsimp only; omega) _
  by_cases o1 : op = 1
  · subst o1
    have sb := sum_bound n (-n') s s' h1 h2 (by omega) (by omega)
    have Pl := fun w => plus_any n (-n') s s' w h1 h2 (by omega) (by omega) hs hs'
    simp only [prodV_negate, prodOk_negate] at sb Pl
    have C : ∀ (x : Int) (b : Bool), x = prodV n (p10 (max s s' - s)) + -prodV n' (p10 (max s s' - s')) → b = (prodOk n (p10 (max s s' - s)) && prodOk n' (p10 (max s s' - s'))) → CalcRes 1 n s n' s' (.returned (.tuple #[.agg #[.int .i64 x, .int .i64 ((max s s' : Nat) : Int)], .bool b])) := by
      intro x b hx hb
      refine ⟨x, _, b, rfl, fun h => ⟨max s s', rfl, by omega, by omega, by omega, ?_⟩, fun h => ?_⟩
      · unfold calcP; rw [if_neg (by decide), if_pos rfl, ← hb, if_pos h, Int.sub_eq_add_neg, ← hx]
      · unfold calcP; rw [if_neg (by decide), if_pos rfl, ← hb, if_neg (by simp [h])]
    generalize prodV n (p10 (max s s' - s)) + -prodV n' (p10 (max s s' - s')) = x at *
    generalize (prodOk n (p10 (max s s' - s)) && prodOk n' (p10 (max s s' - s'))) = b at *
    have C := C x b rfl rfl
    go_enter Try.func23, Try.ntmps23
    go_wp2_with fail
    refine (Pl _).mono ?_
    rintro e w1 ⟨rfl, hb1⟩
    have hR := (Own2.at ((w.alloc _).alloc _) (w.heap.size + 1 + 1) _ _ _ (by simp)).below hb1
    obtain ⟨r0, r1, r2, r3, r4⟩ := id hR
    have hw1 := bl_trans (bl_alloc (bl_alloc (bl_a _) _) _) hb1
    clear hb1 Pl
    go_wp2
    refine bodyPost_ret (v := .tuple #[.agg #[.int .i64 x, .int .i64 ((max s s' : Nat) : Int)], .bool b]) (by simp [results, Try.results23, go_sem, *]) rfl ⟨C, ?_⟩
    exact bl_set (bl_set hw1 (by dsimp only; omega) _) (by dsimp only; omega) _
  by_cases o2 : op = 2
  · subst o2
    have bd := prodV_bound n n'
    have Tm := fun w => times_any n n' s s' w h1 h2 h1' h2' (by omega) (by omega) (by omega) (by omega)
    have C : CalcRes 2 n s n' s' (.returned (.tuple #[.agg #[.int .i64 (prodV n n'), .int .i64 ((s : Int) + s')], .bool (prodOk n n')])) := by
      refine ⟨_, _, _, rfl, fun h => ⟨s + s', by omega, by omega, by omega, by omega, ?_⟩, fun h => ?_⟩
      · unfold calcP; rw [if_neg (by decide), if_neg (by decide), if_pos rfl, if_pos h]
      · unfold calcP; rw [if_neg (by decide), if_neg (by decide), if_pos rfl, if_neg (by simp [h])]
    generalize prodV n n' = x at *
    generalize prodOk n n' = b at *
    go_enter Try.func23, Try.ntmps23
    go_wp2_with fail
    refine (Tm _).mono ?_
    rintro e w1 ⟨rfl, hb1⟩
    have hR := (Own2.at ((w.alloc _).alloc _) (w.heap.size + 1 + 1) _ _ _ (by simp)).below hb1
    obtain ⟨r0, r1, r2, r3, r4⟩ := id hR
    have hw1 := bl_trans (bl_alloc (bl_alloc (bl_a _) _) _) hb1
    clear hb1 Tm
    go_wp2
    refine bodyPost_ret (v := .tuple #[.agg #[.int .i64 x, .int .i64 ((s : Int) + s')], .bool b]) (by simp [results, Try.results23, go_sem, *]) rfl ⟨C, ?_⟩
    exact bl_set (bl_set hw1 (by dsimp only; omega) _) (by dsimp only; omega) _
  by_cases o3 : op = 3
  · subst o3
    have Ov := fun w => over_any n n' s s' w h1 h2 h1' h2' hs hs'
    have p1 := p10_pos (6 - s')
    have C : ∀ (N S : Int) (fits : Bool), fits = (prodOk (absI n) (p10 (6 - s)) && prodOk (absI n') (p10 (6 - s')) && (n' != 0) && quotOk (prodV (absI n) (p10 (6 - s))) (prodV (absI n') (p10 (6 - s')))) →
        (fits = true → N = overV n n' (prodV (absI n) (p10 (6 - s))) (prodV (absI n') (p10 (6 - s'))) ∧ S = 6) → CalcRes 3 n s n' s' (.returned (.tuple #[.agg #[.int .i64 N, .int .i64 S], .bool fits])) := by
      intro N S fits hf hN
      refine ⟨N, S, fits, rfl, fun h => ?_, fun h => ?_⟩
      · obtain ⟨hN1, hS⟩ := hN h
        have hf' := hf.symm.trans h
        simp only [Bool.and_eq_true] at hf'
        obtain ⟨⟨⟨f1, f2⟩, f3⟩, f4⟩ := hf'
        have hn' : n' ≠ 0 := by simpa using f3
        have hx0 : 0 ≤ prodV (absI n) (p10 (6 - s)) := by
          unfold prodV; rw [if_pos f1]
          exact Int.mul_nonneg (absI_nonneg n) (by have := p10_pos (6 - s); omega)
        have hy1 : 1 ≤ prodV (absI n') (p10 (6 - s')) := by
          unfold prodV; rw [if_pos f2]
          have := Int.mul_pos (a := absI n') (b := p10 (6 - s')) (by have := absI_pos hn'; omega) (by omega)
          omega
        have qb := quotV_bound _ _ hx0 (prodV_bound (absI n) (p10 (6 - s))).2 hy1
        have hNb : -4611686018427387904 ≤ N ∧ N ≤ 4611686018427387904 := by
          rw [hN1]; unfold overV; split <;> omega
        refine ⟨6, hS, by omega, by omega, by omega, ?_⟩
        unfold calcP
        rw [if_neg (by decide), if_neg (by decide), if_neg (by decide), if_pos rfl, ← hf, if_pos h, ← hN1]
      · unfold calcP
        rw [if_neg (by decide), if_neg (by decide), if_neg (by decide), if_pos rfl, ← hf, if_neg (by simp [h])]
    go_enter Try.func23, Try.ntmps23
    go_wp2_with fail
    refine (Ov _).mono ?_
    rintro e w1 ⟨N, S, fits, rfl, hf, hN, hb1⟩
    have C := C N S fits hf hN
    have hR := (Own2.at ((w.alloc _).alloc _) (w.heap.size + 1 + 1) _ _ _ (by simp)).below hb1
    clear hf hN
    obtain ⟨r0, r1, r2, r3, r4⟩ := id hR
    have hw1 := bl_trans (bl_alloc (bl_alloc (bl_a _) _) _) hb1
    clear hb1 Ov
    go_wp2
    refine bodyPost_ret (v := .tuple #[.agg #[.int .i64 N, .int .i64 S], .bool fits]) (by simp [results, Try.results23, go_sem, *]) rfl ⟨C, ?_⟩
    exact bl_set (bl_set hw1 (by dsimp only; omega) _) (by dsimp only; omega) _
  · have C : CalcRes op n s n' s' (.returned (.tuple #[.agg #[.int .i64 0, .int .i64 0], .bool false])) :=
      ⟨0, 0, false, rfl, fun h => by simp at h, fun _ => by unfold calcP; rw [if_neg o0, if_neg o1, if_neg o2, if_neg o3]⟩
    have g0 : (op == 0) = false := by simp [o0]
    have g1 : (op == 1) = false := by simp [o1]
    have g2 : (op == 2) = false := by simp [o2]
    have g3 : (op == 3) = false := by simp [o3]
    clear o0 o1 o2 o3
    go_enter Try.func23, Try.ntmps23
    go_wp2
    refine bodyPost_ret (v := .tuple #[.agg #[.int .i64 0, .int .i64 0], .bool false]) (by simp [results, Try.results23, go_sem]) rfl ⟨C, ?_⟩
    exact bl_alloc (bl_alloc (bl_a _) _) _

/-- Is it a number that may be? -/
def isNum (k : Int) (bs : List Int) (n s : Int) : Bool := decide (k = 3) && termOk k bs n s
theorem isNum_bounds {k n s : Int} {bs : List Int} (h : isNum k bs n s = true) : k = 3 ∧ termOk 3 bs n s = true ∧ 0 ≤ s ∧ s ≤ 6 ∧ -1000000000000000 ≤ n ∧ n ≤ 1000000000000000 := by
  simp [isNum] at h
  obtain ⟨rfl, h⟩ := h
  refine ⟨rfl, h, ?_⟩
  simp [termOk, numOk] at h
  omega

theorem isNumber_any (k n s : Int) (a : Option Addr) (len cap : Nat) (bs : List Int) (w : World) (hB : Bs w a len bs) (h1 : -9223372036854775808 ≤ n) (h2 : n ≤ 9223372036854775807) (h3 : -9223372036854775808 ≤ s) (h4 : s ≤ 9223372036854775807) :
    Calls Try.prog 21 #[.agg #[.int .i64 k, .slice a len cap, .int .i64 n, .int .i64 s]] w fun e w' => e = .returned (.bool (isNum k bs n s)) ∧ Below w.heap.size w w' := by
  by_cases hk : k = 3
  · subst hk
    have e : isNum 3 bs n s = termOk 3 bs n s := by simp [isNum]
    rw [e]
    go_enter Try.func21, Try.ntmps21
    go_wp2_with fail
    refine (implTermOk_any 3 n s a len cap bs _ (hB.below (bl_a _)) h1 h2 h3 h4).mono ?_
    rintro e w1 ⟨rfl, hb1⟩
    go_wp2
    go_ret
    exact ⟨rfl, bl_trans (bl_a _) hb1⟩
  · have e : isNum k bs n s = false := by simp [isNum, hk]
    have hk' : (k == 3) = false := by simp [hk]
    rw [e]
    clear hk e
    go_enter Try.func21, Try.ntmps21
    go_wp2
    go_ret
    exact ⟨rfl, bl_a _⟩

/-- A number's parts as the answer. -/
def resV (p : Int × Int) : Value := .tuple #[.agg #[.int .i64 (tK p), .slice none 0 0, .int .i64 (tN p), .int .i64 (tS p)], .bool (numOk p.1 p.2)]
theorem resV_none : resV (0, 7) = .tuple #[.agg #[.int .i64 0, .slice none 0 0, .int .i64 0, .int .i64 0], .bool false] := by
  simp [resV, tK, tN, tS, numOk]
def calcQ (op k : Int) (bs : List Int) (n s : Int) (k' : Int) (bs' : List Int) (n' s' : Int) : Int × Int :=
  if isNum k bs n s && isNum k' bs' n' s' then calcP op n s.toNat n' s'.toNat else (0, 7)
end Go.Proofs.Ytjhobhkdncdnaaa
