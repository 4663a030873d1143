/- PROVED: at every operation and two terms the program's Calc answers as its model, writes into no argument, and its answer owns its memory (FnExactCalcSaid; no condition). -/
import Derived.Test.YtjhobhkdncdnaaeLcaB
import Derived.Test.YtjhobhkdncdnaaeTokF
namespace Go.Proofs.Ytjhobhkdncdnaae
open Go.ChangeShapes Go.WideShapes Go.ChangeAt Go.RowKit Go.Joins

set_option maxRecDepth 100000 in
theorem liftedCalc (os : Os) (started : os.Started) (H : Type) (enc : TypeId × Value → H) :
    ReturnsInHanded {} Try.checked os 6 .any (Rows.fnExactCalcSpec.pre6 enc Try.prog Try.f6 Rows.fnExactCalcRow.domain false) (Rows.fnExactCalcSpec.post enc Try.prog Try.f6 false true false false) := by
  refine returnsInHanded_of_change (C := Try.checked) own started (by kernel_rfl) Try.func6
    (ChangeSpec.witness6 (enc := enc) (C := Try.checked) false ⟨#[], #[.int .i64 0, .agg #[.int .i64 0, .slice none 0 0, .int .i64 0, .int .i64 0], .agg #[.int .i64 0, .slice none 0 0, .int .i64 0, .int .i64 0]], []⟩ 8 (by kernel_rfl) (by kernel_rfl) (by kernel_rfl) (by kernel_rfl)) ?_
  intro W base args ds gs before hval0 hW hcnd _
  have hval : ∀ (j : Nat) t v, Try.f6.params[j]? = some t → args[j]? = some v → Value.okWide Try.prog W .any base t v := hval0
  have hW' := hW
  obtain ⟨p, q, hA0, hV, rfl, hfz, hnd⟩ := hW
  have hA : DataW.TrodAll enc Try.prog W 0 (fun _ => true) true Try.f6.params.toList args.toList ds p := hA0
  rw [Try.params6] at hA hval
  obtain ⟨vo, vso, do0, dso, po, qo, hargs, rfl, rfl, ho, ro⟩ := trodAll_cons hA
  obtain ⟨v0, vs0, d0, ds0, p0, q0, rfl, rfl, rfl, h0, r0⟩ := trodAll_cons ro
  obtain ⟨v1, vs1, d1, ds1, p1, q1, rfl, rfl, rfl, h1, r1⟩ := trodAll_cons r0
  obtain ⟨rfl, rfl, rfl⟩ := trodAll_nil r1
  obtain rfl : args = #[vo, v0, v1] := by cases args; simp_all
  obtain ⟨rfl, rfl⟩ := trodVars_none hV
  have ko := ho
  have k0 := h0
  have k1 := h1
  have lto : ∀ x ∈ po, x.block < W.heap.size := by obtain ⟨m, hm⟩ := ko; exact DataW.trod_lt m _ _ _ hm
  have lt0 : ∀ x ∈ p0, x.block < W.heap.size := by obtain ⟨m, hm⟩ := k0; exact DataW.trod_lt m _ _ _ hm
  have lt1 : ∀ x ∈ p1, x.block < W.heap.size := by obtain ⟨m, hm⟩ := k1; exact DataW.trod_lt m _ _ _ hm
  obtain ⟨op, rfl, _⟩ := open_int Try.underlying3 (hval 0 3 vo rfl rfl) ho
  obtain ⟨k, n, s, a, len, cap, bs, rfl, wk, wn, ws, hlm, hB⟩ := open_term (hval 1 24 v0 rfl rfl) h0
  obtain ⟨k', n', s', a', len', cap', bs', rfl, wk', wn', ws', hlm', hB'⟩ := open_term (hval 2 24 v1 rfl rfl) h1
  clear hA0 hval0
  have bn := bounds_i64 wn
  have bsc := bounds_i64 ws
  have bn' := bounds_i64 wn'
  have bsc' := bounds_i64 ws'
  refine (walkCalc op k n s k' n' s' a a' len cap len' cap' bs bs' W hB hB' hlm hlm' bn.1 bn.2 bsc.1 bsc.2 bn'.1 bn'.2 bsc'.1 bsc'.2).mono fun e W' ⟨he, bel⟩ => ?_
  subst he
  exact ⟨_, rfl, _, _, _, [], _, [], hW', trodAll_mk1 (shut_bool Try.underlying4 _), (trodAll_cons_mk (Below.trod laidOut (by kernel_rfl) (of_decide_eq_true (by kernel_rfl)) ko bel lto) (trodAll_cons_mk (Below.trod laidOut (by kernel_rfl) (of_decide_eq_true (by kernel_rfl)) k0 bel lt0) (trodAll_cons_mk (Below.trod laidOut (by kernel_rfl) (of_decide_eq_true (by kernel_rfl)) k1 bel lt1) trodAll_mk0))), rfl, bel.frame _, fun h => by cases h⟩

theorem overCalc : Rows.fnExactCalcRow.holds Try.pinned (OpenSpec.ofChange Rows.fnExactCalcSpec) :=
  OpenClaim.holds_of_wide 6 Try.f6 rfl rfl rfl rfl rfl rfl rfl ⟨rfl, rfl, rfl, rfl, rfl⟩ rfl rfl rfl rfl rfl (by kernel_rfl) Try.func6 (by kernel_rfl)
    (of_decide_eq_true (by kernel_rfl)) (by unfold Func.isWrapper; first | (rw [if_pos (by decide +kernel)]; kernel_rfl) | (rw [if_neg (by decide +kernel)]; exact ⟨rfl, rfl⟩))
    (fun os started H enc _ => liftedCalc os started H enc)

theorem provedCalc : Rows.FnExactCalcSaid := overCalc
#print axioms provedCalc
end Go.Proofs.Ytjhobhkdncdnaae
