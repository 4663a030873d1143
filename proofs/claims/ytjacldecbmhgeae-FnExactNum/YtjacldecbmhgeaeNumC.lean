/- PROVED: at every two ints the program's Num answers as its model, field by field, twice alike, and its answer owns its memory (FnExactNumSaid; no condition). -/
import Derived.Test.YtjacldecbmhgeaeNumB
import Derived.ChangeOld
namespace Go.Proofs.Ytjacldecbmhgeae.fnExactNum
open Go.ChangeShapes Go.WideShapes Go.ChangeAt Go.RowKit
set_option linter.unusedVariables false

theorem own : ownKnob Try.prog.godebug = none := by kernel_rfl

/-- The cells of a struct of four fields, laid ahead of a call, behind it. -/
theorem keep4 {u w2 : World} {a b c d : Value} {t : TypeId} (h : Below (u.alloc (.cells #[a, b, c, d] t)).heap.size (u.alloc (.cells #[a, b, c, d] t)) w2) :
    w2.cell? ⟨u.heap.size, 0, none⟩ = some a ∧ w2.cell? ⟨u.heap.size, 1, none⟩ = some b ∧ w2.cell? ⟨u.heap.size, 2, none⟩ = some c ∧ w2.cell? ⟨u.heap.size, 3, none⟩ = some d ∧ u.heap.size < w2.heap.size := by
  have e : ∀ i, w2.cell? ⟨u.heap.size, i, none⟩ = (u.alloc (.cells #[a, b, c, d] t)).cell? ⟨u.heap.size, i, none⟩ := fun i => h.cell (by simp)
  have hs := h.size
  simp at hs
  simp [e, go_sem]
  omega

theorem walk (a0 : Int) (a1 : Int) (w0 : (Lit.int .i64 a0).wf = true) (w1 : (Lit.int .i64 a1).wf = true) (w : World) :
    Calls Try.prog 5 #[.int .i64 a0, .int .i64 a1] w fun e w' => e = .returned (.bool true) ∧ Below w.heap.size w w' := by
  have h12 := bounds_i64 w0
  obtain ⟨h1, h2⟩ := h12
  clear w0 w1
  go_enter Try.func5, Try.ntmps5
  go_wp2_with (go_at_call 14; refine (specNum_any a0 a1 _ h1 h2).mono ?_; rintro e w1 ⟨rfl, hb1⟩)
  refine (implNum_any a0 a1 _ h1 h2).mono ?_
  rintro e w2 ⟨rfl, hb2⟩
  obtain ⟨c0, c1, c2, c3, s2⟩ := keep4 hb2
  go_wp2_with (first | (go_at_call 11; refine (eqTerm0 _ _ _ _).mono ?_; rintro e w3 ⟨rfl, o1, o2, rfl⟩) | (go_at_call 16; refine (markTerm0 _ _ _ _ _).mono ?_; rintro e w4 ⟨rfl, o3, rfl⟩) | (go_at_call 17; refine (heldTerm0 _ _ _ _ _ (by omega)).mono ?_; rintro e w5 ⟨rfl, o4, rfl⟩))
  refine (implNum_any a0 a1 _ h1 h2).mono ?_
  rintro e w6 ⟨rfl, hb6⟩
  have B6 := bl_trans (bl_alloc (bl_alloc (bl_alloc (bl_alloc (Below.refl _ _) _) _) _) _) hb6
  obtain ⟨g0, g1, g2, g3, s6⟩ := keep4 B6
  have B2 : Below w2.heap.size w2 w6 := bl_trans (bl_alloc (Below.refl _ _) _) B6
  have d0 := (B2.cell (p := ⟨w1.heap.size, 0, none⟩) s2).trans c0
  have d1 := (B2.cell (p := ⟨w1.heap.size, 1, none⟩) s2).trans c1
  have d2 := (B2.cell (p := ⟨w1.heap.size, 2, none⟩) s2).trans c2
  have d3 := (B2.cell (p := ⟨w1.heap.size, 3, none⟩) s2).trans c3
  have BB : Below w.heap.size w w6 := bl_trans (bl_trans hb1 (bl_alloc (Below.refl _ _) _)) (bl_trans hb2 B2)
  have s16 : w1.heap.size < w6.heap.size := by omega
  have q0 : w2.heap.size ≤ w6.heap.size := by omega
  have q1 : w2.heap.size < w6.heap.size + 1 := by omega
  have q2 : w2.heap.size ≤ w6.heap.size + 1 := by omega
  have q3 : w2.heap.size < w6.heap.size + 1 + 1 := by omega
  clear c0 c1 c2 c3 hb6 B6 B2 hb2 hb1
  go_wp2_with (first | (go_at_call 11; refine (eqTerm0 _ _ _ _).mono ?_; rintro e w3 ⟨rfl, p1, p2, rfl⟩) | (go_at_call 17; refine (heldTerm0 _ _ _ _ _ (by omega)).mono ?_; rintro e w5 ⟨rfl, p4, rfl⟩))
  go_ret
  refine ⟨rfl, ?_⟩
  repeat (first | with_reducible exact BB | with_reducible apply bl_alloc | with_reducible apply Below.drew)

/-! ### THE ROW's STEP: WRITTEN OUT: LEAVE IT -/
set_option maxRecDepth 100000 in
theorem lifted (os : Os) (started : os.Started) (H : Type) (enc : TypeId × Value → H) :
    ReturnsInHanded {} Try.checked os 5 .any (Rows.fnExactNumSpec.pre6 enc Try.prog Try.f5 Rows.fnExactNumRow.domain false) (Rows.fnExactNumSpec.post enc Try.prog Try.f5 false true false false) := by
  refine returnsInHanded_of_change (C := Try.checked) own started (by kernel_rfl) Try.func5
    (ChangeSpec.witness6 (enc := enc) (C := Try.checked) false ⟨#[], #[.int .i64 0, .int .i64 0], []⟩ 8 (by kernel_rfl) (by kernel_rfl) (by kernel_rfl) (by kernel_rfl)) ?_
  intro W base args ds gs before hval0 hW hcnd _
  have hval : ∀ (j : Nat) t v, Try.f5.params[j]? = some t → args[j]? = some v → Value.okWide Try.prog W .any base t v := hval0
  have hW' := hW
  obtain ⟨p, q, hA0, hV, rfl, hfz, hnd⟩ := hW
  have hA : DataW.TrodAll enc Try.prog W 0 (fun _ => true) true Try.f5.params.toList args.toList ds p := hA0
  rw [Try.params5] at hA hval
  obtain ⟨v0, vs0, d0, ds0, p0, q0, hargs, rfl, rfl, h0, r0⟩ := trodAll_cons hA
  obtain ⟨v1, vs1, d1, ds1, p1, q1, rfl, rfl, rfl, h1, r1⟩ := trodAll_cons r0
  obtain ⟨rfl, rfl, rfl⟩ := trodAll_nil r1
  obtain rfl : args = #[v0, v1] := by cases args; simp_all
  obtain ⟨rfl, rfl⟩ := trodVars_none hV
  obtain ⟨a0, rfl, rfl, rfl, w0⟩ := open_int Try.underlying3 (hval 0 3 v0 rfl rfl) h0
  obtain ⟨a1, rfl, rfl, rfl, w1⟩ := open_int Try.underlying3 (hval 1 3 v1 rfl rfl) h1
  clear hA0 hval0
  simp only [List.append_nil] at hW'
  refine (walk a0 a1 w0 w1 W).mono fun e W' ⟨he, bel⟩ => ?_
  subst he
  exact ⟨_, rfl, _, _, _, [], _, [], hW', trodAll_mk1 (shut_bool Try.underlying4 _), (trodAll_cons_mk (shut_int Try.underlying3 w0) (trodAll_cons_mk (shut_int Try.underlying3 w1) trodAll_mk0)), rfl, bel.frame _, fun h => by cases h⟩

theorem over : Rows.fnExactNumRow.holds Try.pinned (OpenSpec.ofChange Rows.fnExactNumSpec) :=
  OpenClaim.holds_of_wide 5 Try.f5 rfl rfl rfl rfl rfl rfl rfl ⟨rfl, rfl, rfl, rfl, rfl⟩ rfl rfl rfl rfl rfl (by kernel_rfl) Try.func5 (by kernel_rfl)
    (of_decide_eq_true (by kernel_rfl)) (by unfold Func.isWrapper; first | (rw [if_pos (by decide +kernel)]; kernel_rfl) | (rw [if_neg (by decide +kernel)]; exact ⟨rfl, rfl⟩))
    (fun os started H enc _ => lifted os started H enc)

/-- ████ THE STATEMENT ████ -/
theorem proved : Rows.FnExactNumSaid :=
  over
#print axioms proved
end Go.Proofs.Ytjacldecbmhgeae.fnExactNum
