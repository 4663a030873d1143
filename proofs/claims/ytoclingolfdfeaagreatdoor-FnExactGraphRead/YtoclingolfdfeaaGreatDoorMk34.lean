/- PROVED: at every text GraphRead of the program answers as the model's, triple by triple, code and place; it writes into no argument, and its answer owns its memory (FnExactGraphReadCardSaid; no condition; the tables and the errors of the library lie as the text of the program lays them, which the card ties). Texts put together: LxX -/
import Derived.Test.YtoclingolfdfeaaGreatDoorMk33
import Derived.Test.YtoclingolfdfeaaGreatDoorMk09
import Derived.Test.YtoclingolfdfeaaGreatDoorMk02
import Derived.Test.YtoclingolfdfeaaGreatDoorCards
import Derived.Test.YtoclingolfdfeaaGreatDoorTie
import Derived.LaidMore
import Derived.Stop.Joined
import Derived.Lib.LaidTab
import Derived.Stop.LaidErr
import Derived.SevenTiedAt
import Derived.LaidLaws
/- LxX -/
namespace Go.Proofs.YtoclingolfdfeaaGreatDoor
open Go.ChangeShapes Go.WideShapes Go.ChangeAt Go.RowKit Go.Joins
set_option maxRecDepth 100000

theorem code_text {w : World} {a : Option Addr} {len : Nat} (h : Code w a len) (hl : len ≤ 1048576) : ∃ bs, Bs w a len bs := by
  rcases h with h | ⟨b, off, ha, hlt, hc⟩
  · exact ⟨[], by simp [h], by omega, by simp, .inl h⟩
  · have hc' : ∀ i : Fin len, ∃ v, w.cell? ⟨b, off + i.1, none⟩ = some (.int .u8 v) ∧ 0 ≤ v ∧ v ≤ 255 := fun i => hc i.1 i.2
    let f : Fin len → Int := fun i => Classical.choose (hc' i)
    have hf := fun i => Classical.choose_spec (hc' i)
    refine ⟨List.ofFn f, by simp, by omega, fun i => ?_, .inr ⟨b, off, ha, hlt, fun i hi => ?_⟩⟩
    · by_cases hi : i < len
      · rw [List.getElem?_eq_getElem (by simpa using hi)]
        simpa using (hf ⟨i, hi⟩).2
      · rw [List.getElem?_eq_none (by simpa using Nat.le_of_not_lt hi)]
        simp
    · rw [List.getElem?_eq_getElem (by simpa using hi)]
      simpa using (hf ⟨i, hi⟩).1
theorem walkGraphRead (a : Option Addr) (len cap : Nat) (w : World) (hC : Code w a len) (hT : Tab w) (hE : Errs w) :
    Calls Tryz.prog 5 #[.slice a len cap] w fun e w' => e = .returned (.bool true) ∧ Below w.heap.size w w' := by
  by_cases hle : len ≤ 1048576
  · obtain ⟨bs, hB⟩ := code_text hC hle
    exact walkGraphRead_a a len cap bs w hle hB fun W hb => ⟨hT.below hb, hE.below hb⟩
  · exact walkGraphRead_long a len cap w (by omega)

theorem door_metGraphRead (os : Os) (args : Array Value) : laidMetH Tryz.prog Rows.fnExactGraphReadRow.laid ((World.doorLaid Tryz.prog 62 os).forCall (fun _ _ => 0) ⟨#[], args, []⟩).memory :=
  laidMetH_of_parts3 (fuel := 8) (laidMet_of_run' 8 (by kernel_rfl) (by kernel_rfl)) (by kernel_rfl) (by kernel_rfl)

theorem Tryz.cells141 : Tryz.prog.cellsOf 141 = 1 := by kernel_rfl
theorem tab_of_laid {W : World} (h : laidMetH Tryz.prog Rows.fnExactGraphReadRow.laid W) : Tab W := by
  rw [MakeChecks.laidMetH_plain _ _ _ (by kernel_rfl)] at h
  exact Lib.tabIs_of_head (k := .u64) (zs := Lib.pow10Tab) (rest := [("strconv.ErrRange", Rows.laid_strconv_ErrRange), ("strconv.ErrSyntax", Rows.laid_strconv_ErrSyntax)]) (g := 0) (t := 174) (n := 20) (by kernel_rfl) (by kernel_rfl) (by kernel_rfl) Tryz.underlying141 Tryz.cells141 (by kernel_rfl) (laidMet.tail (laidMet.tail h))
theorem starErr : "*" ++ "errors.errorString" = "*errors.errorString" := by decide
theorem rowErr (u : TypeId) (h : Tryz.prog.typeName? 3 u = some "*errors.errorString") : u = 203 :=
  typeName_ptr_named (nm := "errors.errorString") (by rw [starErr]; kernel_rfl) (by kernel_rfl) (by decide) u (by rw [starErr]; exact h)
theorem errs_of_laid {W : World} (h : laidMetH Tryz.prog Rows.fnExactGraphReadRow.laid W) : Errs W := by
  rw [MakeChecks.laidMetH_plain _ _ _ (by kernel_rfl)] at h
  have hR := laidMet.tail (laidMet.tail (laidMet.tail h))
  have hS := laidMet.tail hR
  obtain ⟨a1, s1, hv1, _⟩ := laid_sentinel (g := 5) (ti := 123) (tp := 203) (te := 205) (ts := 9) (f := { name := "s", type := 9, offset := 0, embedded := false, tag := "", pkgPath := "errors", byteOffset := 0 }) (ms := #[("Error", 54)]) hR (by kernel_rfl) (by kernel_rfl) (by kernel_rfl) rowErr (by kernel_rfl) (by kernel_rfl) rfl rfl Tryz.underlying9 (by kernel_rfl) (by kernel_rfl)
  obtain ⟨a2, s2, hv2, _⟩ := laid_sentinel (g := 4) (ti := 123) (tp := 203) (te := 205) (ts := 9) (f := { name := "s", type := 9, offset := 0, embedded := false, tag := "", pkgPath := "errors", byteOffset := 0 }) (ms := #[("Error", 54)]) hS (by kernel_rfl) (by kernel_rfl) (by kernel_rfl) rowErr (by kernel_rfl) (by kernel_rfl) rfl rfl Tryz.underlying9 (by kernel_rfl) (by kernel_rfl)
  have c1 : W.cell? ⟨5, 0, none⟩ = some (.iface 203 (.pointer (some a1))) := by simpa using World.var?_cell (P := Tryz.prog) (by kernel_rfl) hv1 0
  have c2 : W.cell? ⟨4, 0, none⟩ = some (.iface 203 (.pointer (some a2))) := by simpa using World.var?_cell (P := Tryz.prog) (by kernel_rfl) hv2 0
  exact ⟨cell_lt c2, cell_lt c1, ⟨_, _, c2⟩, _, _, c1⟩

theorem liftedGraphRead (os : Os) (started : os.Started) (H : Type) (enc : TypeId × Value → H) :
    ReturnsInHanded {} Tryz.checked os 5 .any (fun w args => (Rows.fnExactGraphReadSpec.pre enc Tryz.prog Tryz.f5 [] false w args ∧ laidMetH Tryz.prog Rows.fnExactGraphReadRow.laid w) ∧ sizedMet enc Tryz.prog Tryz.f5 (OpenSpec.ofChange Rows.fnExactGraphReadSpec) false w args)
      (Rows.fnExactGraphReadSpec.post enc Tryz.prog Tryz.f5 false true false false) := by
  refine returnsInHanded_of_change_and (C := Tryz.checked) (X := fun w _ => laidMetH Tryz.prog Rows.fnExactGraphReadRow.laid w) (fun _ _ _ hh h => h.of_heap hh) own started (by kernel_rfl) Tryz.func5
    (ChangeSpec.witness_shaped (enc := enc) (C := Tryz.checked) (os := os) (X := fun w _ => laidMetH Tryz.prog Rows.fnExactGraphReadRow.laid w) false (World.doorLaid Tryz.prog 62 os) #[.slice none 0 0] 8 rfl (World.shaped_of_RefB (by kernel_rfl) (by kernel_rfl)) (by kernel_rfl) (by kernel_rfl) (by kernel_rfl) (door_metGraphRead os _)) ?_
  intro W base args ds gs before hval0 hW _ _ hL _
  have hval : ∀ (j : Nat) t v, Tryz.f5.params[j]? = some t → args[j]? = some v → Value.okWide Tryz.prog W .any base t v := hval0
  have hW' := hW
  obtain ⟨p, q, hA0, hV, rfl, hfz, hnd⟩ := hW
  have hA : DataW.TrodAll enc Tryz.prog W 0 (fun _ => true) true Tryz.f5.params.toList args.toList ds p := hA0
  rw [Tryz.params5] at hA hval
  obtain ⟨v0, vs0, d0, ds0, p0, q0, hargs, rfl, rfl, h0, r0⟩ := trodAll_cons hA
  obtain ⟨rfl, rfl, rfl⟩ := trodAll_nil r0
  obtain rfl : args = #[v0] := by cases args; simp_all
  obtain ⟨rfl, rfl⟩ := trodVars_none hV
  have k0 := h0
  have lt0 : ∀ x ∈ p0, x.block < W.heap.size := by obtain ⟨m, hm⟩ := k0; exact DataW.trod_lt m _ _ _ hm
  obtain ⟨a, len, cap, rfl, hlen, hC⟩ := open_code (hval 0 22 v0 rfl rfl) h0
  clear hA0 hval0
  refine (walkGraphRead a len cap W hC (tab_of_laid hL) (errs_of_laid hL)).mono fun e W' ⟨he, bel⟩ => ?_
  subst he
  exact ⟨_, rfl, _, _, _, [], _, [], hW', trodAll_mk1 (shut_bool Tryz.underlying4 _), (trodAll_cons_mk (Below.trod laidOut (by kernel_rfl) (of_decide_eq_true (by kernel_rfl)) k0 bel lt0) trodAll_mk0), rfl, bel.frame _, fun h => by cases h⟩

theorem overGraphRead : Rows.FnExactGraphReadSaid :=
  OpenClaim.holds_of_wide 5 Tryz.f5 rfl rfl rfl rfl rfl rfl rfl ⟨rfl, rfl, rfl, rfl, rfl⟩ rfl rfl rfl rfl rfl (by kernel_rfl) Tryz.func5 (by kernel_rfl)
    (of_decide_eq_true (by kernel_rfl)) (by unfold Func.isWrapper; first | (rw [if_pos (by decide +kernel)]; kernel_rfl) | (rw [if_neg (by decide +kernel)]; exact ⟨rfl, rfl⟩))
    (fun os started H enc _ => liftedGraphRead os started H enc)

theorem provedGraphRead : Rows.FnExactGraphReadCardSaid :=
  Claim7.holds_tied_plain_at .later [] [.data, .data, .data, .sentinel, .sentinel] true Rows.fnExactGraphReadCard.stood.harness true
    overGraphRead (fun _ h => by cases h) (by kernel_rfl) (fun _ h => by cases h) fnExactGraphRead_row_tie rfl ⟨rfl, rfl⟩ (by kernel_rfl) rfl
    (fun f fn hf hfn => by
      obtain rfl : f = 5 := Option.some.inj ((show Tryz.prog.funcNamed Rows.fnExactGraphReadRow.func = some 5 by kernel_rfl).symm.trans hf) |>.symm
      obtain rfl : fn = Tryz.f5 := (Option.some.inj (Tryz.func5.symm.trans hfn)).symm
      exact ⟨by kernel_rfl, fun j t ht => by
        rw [Tryz.params5] at ht
        have hm : t ∈ [22] := by simpa using Array.mem_of_getElem? ht
        have hall : ([22].all fun u => !Tryz.prog.wantsStandIn u) = true := by kernel_rfl
        exact (show Tryz.prog.wantsStandIn t = false by simpa using List.all_eq_true.1 hall t hm)⟩)
    (by kernel_rfl)
#print axioms provedGraphRead
end Go.Proofs.YtoclingolfdfeaaGreatDoor
