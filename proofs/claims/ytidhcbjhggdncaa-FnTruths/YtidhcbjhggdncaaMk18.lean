/- Texts put together: TbT TvT TvU -/
import Derived.Test.YtidhcbjhggdncaaMk16
import Derived.Test.YtidhcbjhggdncaaMk17
import Derived.Test.YtidhcbjhggdncaaMk13
import Derived.Lib.SlBytesConst
/- TbT -/
namespace Go.Proofs.Ytidhcbjhggdncaa
open Go.RowKit Go.Deep
set_option maxRecDepth 100000

theorem step_store_five {ops : Array Oper} {op : Oper} {a : Act} {w : World} {K : Act → World → Prop} {Q : Exit → Act → World → Prop} {E : Prop} (hgd : op.guard = none) (ty : TypeId) (x y : Operand) (ho : op.op = .store ty x y)
    (b o : Nat) (cells : Array Value) (hx : a.eval x = .pointer (some ⟨b, o, none⟩)) (hy : a.eval y = .agg cells)
    (ht : w.there b o cells.size) (hi : (Try.prog.info? ty).map (·.size) = some cells.size) (h1 : cells.all (·.oneCell') = true)
    (h : K (a.put op.dst undef) (w.setCells b o cells.toList)) : if Region.wanted op (yielded ops a.tmps) = true then Oper.wp Try.prog op a w K Q else E := by
  have hw : Region.wanted op (yielded ops a.tmps) = true := by simp [Region.wanted, hgd]
  rw [if_pos hw]
  exact wp_store_mid ty x y ho b o cells hx hy ht hi h1 h
theorem Tx.bsf {w : World} {B B' : Nat} {a : Option Addr} {len cap : Nat} {bs : List Int} (h : Tx w B a len cap bs) (hB : B' ≤ B) : BsF B' w ⟨a, len, cap, bs⟩ := by
  refine ⟨h.1, ?_⟩
  rcases h.2 with ⟨_, h0, _⟩ | ⟨g, ha, hg, _⟩
  · exact .inl h0
  · exact .inr fun p hp => by
      have e : some p = some ⟨g, 0, none⟩ := hp.symm.trans ha
      cases e
      exact Nat.le_trans hB hg
def zCB : CB := ⟨false, ⟨⟨0, none, 0, 0, 0, 0⟩, []⟩⟩
theorem zCB_lies (B : Nat) (w : World) : zCB.lies B w := by
  refine ⟨⟨⟨rfl, Nat.zero_le _, fun i => ?_, .inl rfl⟩, .inl rfl⟩, ?_⟩
  · show 0 ≤ ([] : List Int)[i]?.getD 0 ∧ ([] : List Int)[i]?.getD 0 ≤ 255
    simp
  · show -9223372036854775808 ≤ (0 : Int) ∧ (0 : Int) ≤ 9223372036854775807 ∧ -9223372036854775808 ≤ (0 : Int) ∧ (0 : Int) ≤ 9223372036854775807
    omega
/-- What stands in the middle of l6sol. -/
structure SM (w W : World) (g G q : Nat) (a : Option Addr) (len cap : Nat) (f : Nat → CB) : Prop where
  p : Past g w W
  c : Cur W g a len cap
  s : S2 W w.heap.size G f
  r : OB W w.heap.size [.slice none 0 0]
  qx : OB W q [.slice (some ⟨G, 0, none⟩) 2 2]
  gq : w.heap.size < q ∧ G < q ∧ G ≠ w.heap.size
theorem SM.past {w W W' : World} {g G q : Nat} {a : Option Addr} {len cap : Nat} {f : Nat → CB} (h : SM w W g G q a len cap f) (hp : Past g W W') (hc : Cur W' g a len cap) (hg : g < w.heap.size) : SM w W' g G q a len cap f :=
  ⟨h.p.trans hp, hc, h.s.past hp hg, h.r.past hp (by omega), h.qx.past hp (by have := h.gq.1; omega), h.gq⟩
theorem SM.below {w W W' : World} {g G q : Nat} {a : Option Addr} {len cap : Nat} {f : Nat → CB} (h : SM w W g G q a len cap f) (hb : Below W.heap.size W W') : SM w W' g G q a len cap f :=
  ⟨h.p.trans (Past.of_below hb), h.c.below hb, h.s.below hb, h.r.below hb, h.qx.below hb, h.gq⟩
theorem past_sets {g G : Nat} {w : World} : ∀ (vs : List Value) (o : Nat) {W : World}, Past g w W → w.heap.size ≤ G → Past g w (W.setCells G o vs)
  | [], _, _, h, _ => h
  | v :: r, o, _, h, hG => past_sets r (o + 1) (h.set_new (p := ⟨G, o, none⟩) hG v) hG
theorem SM.put {w W : World} {g G q : Nat} {a : Option Addr} {len cap : Nat} {f : Nat → CB} (h : SM w W g G q a len cap f) (hg : g < w.heap.size) (hC : Cur w g a len cap) (k : Nat) (hk : k < 2) (x : CB) (hx : x.lies w.heap.size W) : SM w (W.setCells G (k * 5) x.cells) g G q a len cap (fun j => if j = k then x else f j) := by
  have hG := h.s.lo
  have hp := past_sets x.cells (k * 5) h.p hG
  have hb := but_sets G x.cells (k * 5) W
  exact ⟨hp, hC.glue h.c hp (hb.block g (by omega)), h.s.put k hk x hx, h.r.but hb (Ne.symm h.gq.2.2), h.qx.but hb (by have := h.gq.2.1; omega), h.gq⟩

end Go.Proofs.Ytidhcbjhggdncaa

/- TvT -/
namespace Go.Proofs.Ytidhcbjhggdncaa
open Go.RowKit Go.Deep
set_option maxRecDepth 100000

theorem run_make3 (w : World) :
    (Instr.makeSlice 30 (.int .i64 3) (.int .i64 3)).run Try.prog w = .ok (.slice (some ⟨w.heap.size, 0, none⟩) 3 3) (w.alloc (.cells #[.bool false, .int .i64 0, .slice none 0 0, .int .i64 0, .int .i64 0, .bool false, .int .i64 0, .slice none 0 0, .int .i64 0, .int .i64 0, .bool false, .int .i64 0, .slice none 0 0, .int .i64 0, .int .i64 0] 56)) := by
  have hi0 : (Try.prog.info? 56).map (fun i => (i.zero, i.size, i.bytes)) = some (some (.agg #[.bool false, .int .i64 0, .slice none 0 0, .int .i64 0, .int .i64 0]), 5, 56) := by kernel_rfl
  obtain ⟨i, hi, hzz⟩ := Option.map_eq_some_iff.1 hi0
  simp only [Prod.mk.injEq] at hzz
  obtain ⟨hz, hs, hb⟩ := hzz
  have hr := run_make (P := Try.prog) w 30 56 i _ Try.underlying30 hi hz .i64 .i64 3 3 (by omega) (Int.le_refl _) (by rw [hb]; omega) (by omega)
  simp only [hs, Value.cells] at hr
  have e : madeCells #[.bool false, .int .i64 0, .slice none 0 0, .int .i64 0, .int .i64 0] (Int.toNat 3 * 5) = #[.bool false, .int .i64 0, .slice none 0 0, .int .i64 0, .int .i64 0, .bool false, .int .i64 0, .slice none 0 0, .int .i64 0, .int .i64 0, .bool false, .int .i64 0, .slice none 0 0, .int .i64 0, .int .i64 0] := by kernel_rfl
  rw [e] at hr
  exact hr
theorem l6unit_three (w : World) : Calls Try.prog 42 #[.int .i64 3] w fun e w' => ∃ G, e = .returned (.agg #[.slice (some ⟨G, 0, none⟩) 3 3]) ∧ w.heap.size ≤ G ∧ OB w' G [.bool false, .int .i64 0, .slice none 0 0, .int .i64 0, .int .i64 0, .bool false, .int .i64 0, .slice none 0 0, .int .i64 0, .int .i64 0, .bool false, .int .i64 0, .slice none 0 0, .int .i64 0, .int .i64 0] ∧ Below w.heap.size w w' := by
  have hmk := run_make3
  have st : ((w.alloc (.cells #[.slice none 0 0] 32)).alloc (.cells #[.bool false, .int .i64 0, .slice none 0 0, .int .i64 0, .int .i64 0, .bool false, .int .i64 0, .slice none 0 0, .int .i64 0, .int .i64 0, .bool false, .int .i64 0, .slice none 0 0, .int .i64 0, .int .i64 0] 56)).there w.heap.size 0 1 := ((OB.new w #[.slice none 0 0] 32).below (bl_a _)).there 0 1 (by simp)
  have on : (#[.slice (some ⟨w.heap.size + 1, 0, none⟩) 3 3] : Array Value).all (·.oneCell') = true := all_oneCell_toArray (cs := [.slice (some ⟨w.heap.size + 1, 0, none⟩) 3 3]) (by simp [Value.oneCell'])
  go_enter Try.func42, Try.ntmps42
  go_wp2_with (with_reducible refine wpr_at ?_; refine wpList_store_mid rfl 32 _ _ rfl _ _ _ rfl rfl st (by kernel_rfl) on ?_; try simp only [Act.put])
  have hrd : (((w.alloc (.cells #[.slice none 0 0] 32)).alloc (.cells #[.bool false, .int .i64 0, .slice none 0 0, .int .i64 0, .int .i64 0, .bool false, .int .i64 0, .slice none 0 0, .int .i64 0, .int .i64 0, .bool false, .int .i64 0, .slice none 0 0, .int .i64 0, .int .i64 0] 56)).setCells w.heap.size 0 [.slice (some ⟨w.heap.size + 1, 0, none⟩) 3 3]).rangeAt w.heap.size 0 [.slice (some ⟨w.heap.size + 1, 0, none⟩) 3 3] := World.rangeAt_setCells_same _ _ _ _ st
  refine bodyPost_ret (v := .agg #[.slice (some ⟨w.heap.size + 1, 0, none⟩) 3 3]) ?hr rfl ?hp
  case hr => exact results_cell rfl rfl (run_loadVar_mid (P := Try.prog) _ w.heap.size 0 32 [.slice (some ⟨w.heap.size + 1, 0, none⟩) 3 3] _ hrd Try.underlying32 rfl (by kernel_rfl))
  have hO : OB (((w.alloc (.cells #[.slice none 0 0] 32)).alloc (.cells #[.bool false, .int .i64 0, .slice none 0 0, .int .i64 0, .int .i64 0, .bool false, .int .i64 0, .slice none 0 0, .int .i64 0, .int .i64 0, .bool false, .int .i64 0, .slice none 0 0, .int .i64 0, .int .i64 0] 56)).setCells w.heap.size 0 [.slice (some ⟨w.heap.size + 1, 0, none⟩) 3 3]) (w.heap.size + 1) [.bool false, .int .i64 0, .slice none 0 0, .int .i64 0, .int .i64 0, .bool false, .int .i64 0, .slice none 0 0, .int .i64 0, .int .i64 0, .bool false, .int .i64 0, .slice none 0 0, .int .i64 0, .int .i64 0] := by
    have h := OB.new (w.alloc (.cells #[.slice none 0 0] 32)) #[.bool false, .int .i64 0, .slice none 0 0, .int .i64 0, .int .i64 0, .bool false, .int .i64 0, .slice none 0 0, .int .i64 0, .int .i64 0, .bool false, .int .i64 0, .slice none 0 0, .int .i64 0, .int .i64 0] 56
    have e : (w.alloc (.cells #[.slice none 0 0] 32)).heap.size = w.heap.size + 1 := by simp
    rw [e] at h
    exact h.but (but_sets _ _ _ _) (by omega)
  exact ⟨w.heap.size + 1, rfl, by omega, hO, below_sets _ (Nat.le_refl _) _ _ _ (bl_alloc (bl_a _) _)⟩
/-- A solution of two cells that was drawn: its cells lie in the block G. -/
structure S3c (w : World) (B G : Nat) (f : Nat → CB) : Prop where
  lo : B ≤ G
  ob : OB w G ((f 0).cells ++ ((f 1).cells ++ (f 2).cells))
  tx : ∀ j, j < 3 → (f j).lies B w
theorem S3c.past {w w' : World} {B G g : Nat} {f : Nat → CB} (h : S3c w B G f) (hp : Past g w w') (hg : g < B) : S3c w' B G f := ⟨h.lo, h.ob.past hp (by have := h.lo; omega), fun j hj => (h.tx j hj).past hp hg⟩
theorem S3c.below {w w' : World} {B G : Nat} {f : Nat → CB} (h : S3c w B G f) (hb : Below w.heap.size w w') : S3c w' B G f := ⟨h.lo, h.ob.below hb, fun j hj => ⟨⟨(h.tx j hj).1.1.below hb, (h.tx j hj).1.2⟩, (h.tx j hj).2⟩⟩
theorem three_kind (x y z : CB) (c : Nat) (hc : c < 15) : ∃ u, (x.cells ++ (y.cells ++ z.cells))[c]? = some u ∧ ∀ v, u ≠ .int .u8 v := by
  have hx : x.cells.length = 5 := rfl
  by_cases h5 : c < 5
  · refine ⟨x.cells[c], ?_, ?_⟩
    · rw [List.getElem?_append_left (by omega)]
      exact List.getElem?_eq_getElem (by omega)
    · exact cb_kind x c _ (List.getElem?_eq_getElem (by omega))
  · obtain ⟨u, hu, h⟩ := two_kind y z (c - 5) (by omega)
    exact ⟨u, by rw [List.getElem?_append_right (by omega), hx]; exact hu, h⟩
/-- Putting the cell j anew. -/
theorem S3c.put {w : World} {B G : Nat} {f : Nat → CB} (h : S3c w B G f) (k : Nat) (hk : k < 3) (x : CB) (hx : x.lies B w) : S3c (w.setCells G (k * 5) x.cells) B G (fun j => if j = k then x else f j) := by
  have hkind : ∀ c, k * 5 ≤ c → c < k * 5 + x.cells.length → ∃ u, ((f 0).cells ++ ((f 1).cells ++ (f 2).cells))[c]? = some u ∧ ∀ z, u ≠ .int .u8 z := fun c _ h2 => three_kind _ _ _ c (by have : x.cells.length = 5 := rfl; omega)
  have tx : ∀ y : CB, y.lies B w → y.lies B (w.setCells G (k * 5) x.cells) := fun y hy => ⟨⟨Bs.sets _ _ hy.1.1 h.ob hkind, hy.1.2⟩, hy.2⟩
  refine ⟨h.lo, ?_, fun j hj => ?_⟩
  · have ho := h.ob.sets x.cells (k * 5)
    rcases (by omega : k = 0 ∨ k = 1 ∨ k = 2) with rfl | rfl | rfl
    · exact ho
    · exact ho
    · exact ho
  · show CB.lies B _ (if j = k then x else f j)
    split
    · exact tx x hx
    · exact tx _ (h.tx j hj)
def SolDrawn3 (g : Nat) (a : Option Addr) (len cap : Nat) (w : World) (e : Ending) (w' : World) : Prop := ∃ (G : Nat) (f : Nat → CB), e = .returned (.agg #[.slice (some ⟨G, 0, none⟩) 3 3]) ∧ S3c w' w.heap.size G f ∧ Past g w w' ∧ Cur w' g a len cap
/-- What stands in the middle of l6sol. -/
structure SM3 (w W : World) (g G q : Nat) (a : Option Addr) (len cap : Nat) (f : Nat → CB) : Prop where
  p : Past g w W
  c : Cur W g a len cap
  s : S3c W w.heap.size G f
  r : OB W w.heap.size [.slice none 0 0]
  qx : OB W q [.slice (some ⟨G, 0, none⟩) 3 3]
  gq : w.heap.size < q ∧ G < q ∧ G ≠ w.heap.size
theorem SM3.past {w W W' : World} {g G q : Nat} {a : Option Addr} {len cap : Nat} {f : Nat → CB} (h : SM3 w W g G q a len cap f) (hp : Past g W W') (hc : Cur W' g a len cap) (hg : g < w.heap.size) : SM3 w W' g G q a len cap f :=
  ⟨h.p.trans hp, hc, h.s.past hp hg, h.r.past hp (by omega), h.qx.past hp (by have := h.gq.1; omega), h.gq⟩
theorem SM3.below {w W W' : World} {g G q : Nat} {a : Option Addr} {len cap : Nat} {f : Nat → CB} (h : SM3 w W g G q a len cap f) (hb : Below W.heap.size W W') : SM3 w W' g G q a len cap f :=
  ⟨h.p.trans (Past.of_below hb), h.c.below hb, h.s.below hb, h.r.below hb, h.qx.below hb, h.gq⟩
theorem SM3.put {w W : World} {g G q : Nat} {a : Option Addr} {len cap : Nat} {f : Nat → CB} (h : SM3 w W g G q a len cap f) (hg : g < w.heap.size) (hC : Cur w g a len cap) (k : Nat) (hk : k < 3) (x : CB) (hx : x.lies w.heap.size W) : SM3 w (W.setCells G (k * 5) x.cells) g G q a len cap (fun j => if j = k then x else f j) := by
  have hG := h.s.lo
  have hp := past_sets x.cells (k * 5) h.p hG
  have hb := but_sets G x.cells (k * 5) W
  exact ⟨hp, hC.glue h.c hp (hb.block g (by omega)), h.s.put k hk x hx, h.r.but hb (Ne.symm h.gq.2.2), h.qx.but hb (by have := h.gq.2.1; omega), h.gq⟩
set_option maxHeartbeats 4000000 in
theorem l6sol_three (g : Nat) (a : Option Addr) (len cap : Nat) (w : World) (hlen : len ≤ 9223372036854775807) (hC : Cur w g a len cap) :
    Calls Try.prog 17 #[.pointer (some ⟨g, 0, none⟩), .int .i64 3] w (SolDrawn3 g a len cap w) := by
  have hgl := hC.lt
  have HC : Hid (Cur w g a len cap) := hC
  have HON : Hid (∀ W, Cur W g a len cap → Calls Try.prog 18 #[.pointer (some ⟨g, 0, none⟩), .int .i64 4] W fun e w' => ∃ p : Bool, e = .returned (.bool p) ∧ Past g W w' ∧ Cur w' g a len cap) := fun W h => l1Once_any g a len cap 4 W hlen h (by omega) (by omega)
  have HTM : Hid (∀ W, Cur W g a len cap → Calls Try.prog 40 #[.pointer (some ⟨g, 0, none⟩)] W (TermDrawn g a len cap W)) := fun W h => l1term_any g a len cap W hlen h
  have hU := l6unit_three (w.alloc (.cells #[.slice none 0 0] 32))
  clear hC
  go_enter Try.func17, Try.ntmps17
  go_wp2_with fail
  refine hU.mono ?_
  rintro e w1 ⟨G, rfl, hG, hO, hb1⟩
  have hG' : w.heap.size + 1 ≤ G := by simpa using hG
  have HR1 : Hid (OB w1 w.heap.size [.slice none 0 0]) := (OB.new w #[.slice none 0 0] 32).below hb1
  have HB1 : Hid (Below w.heap.size w w1) := bl_trans (bl_a _) hb1
  have HO1 : Hid (OB w1 G [.bool false, .int .i64 0, .slice none 0 0, .int .i64 0, .int .i64 0, .bool false, .int .i64 0, .slice none 0 0, .int .i64 0, .int .i64 0, .bool false, .int .i64 0, .slice none 0 0, .int .i64 0, .int .i64 0]) := hO
  have hGl := hO.1
  clear hU hG hO hb1
  have st : (w1.alloc (.cells #[.slice none 0 0] 32)).there w1.heap.size 0 1 := (OB.new w1 #[.slice none 0 0] 32).there 0 1 (by simp)
  have on : (#[.slice (some ⟨G, 0, none⟩) 3 3] : Array Value).all (·.oneCell') = true := all_oneCell_toArray (cs := [.slice (some ⟨G, 0, none⟩) 3 3]) (by simp [Value.oneCell'])
  have HM0 : Hid (SM3 w ((w1.alloc (.cells #[.slice none 0 0] 32)).setCells w1.heap.size 0 [.slice (some ⟨G, 0, none⟩) 3 3]) g G w1.heap.size a len cap (fun _ => zCB)) := by
    have hb : Below w1.heap.size w1 ((w1.alloc (.cells #[.slice none 0 0] 32)).setCells w1.heap.size 0 [.slice (some ⟨G, 0, none⟩) 3 3]) := below_sets _ (Nat.le_refl _) _ _ _ (bl_a _)
    have hw := bl_trans HB1.out hb
    refine ⟨Past.of_below hw, HC.out.below hw, ⟨by omega, HO1.out.below hb, fun j _ => zCB_lies _ _⟩, HR1.out.below hb, (OB.new w1 #[.slice none 0 0] 32).sets [.slice (some ⟨G, 0, none⟩) 3 3] 0, ?_, hGl, by omega⟩
    exact HR1.out.1
  go_upto_region 2 with (with_reducible refine wpr_at ?_; refine wpList_store_mid rfl 32 _ _ rfl _ _ _ rfl rfl st (by kernel_rfl) on ?_; try simp only [Act.put])
  generalize (w1.alloc (.cells #[.slice none 0 0] 32)).setCells w1.heap.size 0 [.slice (some ⟨G, 0, none⟩) 3 3] = W1 at *
  clear st on HR1 HB1 HO1
  generalize w1.heap.size = q at *
  go_wp2_with fail
  go_loopw [6] (fun i wr => ∃ (k : Nat) (f : Nat → CB), k ≤ 3 ∧ i = .int .i64 k ∧ Hid (SM3 w wr g G q a len cap f))
    (fun i _ => 3 - (intOf i).toNat)
  case atStart => exact ⟨0, _, Nat.zero_le _, rfl, HM0⟩
  case round =>
    obtain ⟨k, f, hk, rfl, HM⟩ := hrel
    clear HM0
    by_cases hlk : k < 3
    · have hlkz : (k : Int) < 3 := by omega
      go_wp2_with fail
      refine (HON.out _ HM.out.c).mono ?_
      rintro e w2 ⟨b, rfl, hp2, hc2⟩
      have HM2 : Hid (SM3 w w2 g G q a len cap f) := HM.out.past hp2 hc2 hgl
      clear hp2 hc2 HM
      cases b
      case true =>
        go_wp2_with fail
        go_roundw
        case rel => exact ⟨k + 1, f, by omega, by go_num, HM2⟩
        case measure => simp [intOf]; omega
      have hC2 : Cur w2.drew g a len cap := HM2.out.c.below (Below.drew (Below.refl _ _))
      have hT2 := HTM.out _ hC2
      have HMD : Hid (SM3 w w2.drew g G q a len cap f) := HM2.out.below (Below.drew (Below.refl _ _))
      have hq2 : w2.drew.cell? ⟨q, 0, none⟩ = some (.slice (some ⟨G, 0, none⟩) 3 3) := (HMD.out.qx.2 0 _ rfl).1
      go_wp2_with fail
      refine wp_region_held_drew (S := fun w' => w'.cell? ⟨q, 0, none⟩ = some (.slice (some ⟨G, 0, none⟩) 3 3)) (by kernel_rfl) ?_ (fun hHeld => ?_)
      · exact hq2
      refine takeq (i := 0) 17 (v := ?v1) rfl rfl (by kernel_rfl) (by kernel_rfl) (by kernel_rfl) (fun _ _ _ h => h) (Or.inl ⟨by rfl, ?y1⟩) hHeld ?r1
      case y1 => (intro w' hSw; skip; go_simp; (try with_reducible rfl))
      try simp only [Act.put, List.setIfInBounds_toArray, List.set_cons_zero, List.set_cons_succ]
      refine takeq (i := 1) 18 (v := ?v2) rfl rfl (by kernel_rfl) (by kernel_rfl) (by kernel_rfl) (fun _ _ _ h => h) (Or.inl ⟨by rfl, ?y2⟩) hHeld ?r2
      case y2 => (intro w' hSw; skip; go_simp; (try with_reducible rfl))
      try simp only [Act.put, List.setIfInBounds_toArray, List.set_cons_zero, List.set_cons_succ]
      refine takeq (i := 2) 19 (v := ?v3) rfl rfl (by kernel_rfl) (by kernel_rfl) (by kernel_rfl) (fun _ _ _ h => h) (Or.inl ⟨by rfl, ?y3⟩) hHeld ?r3
      case y3 => (intro w' hSw; skip; go_simp; (try with_reducible rfl))
      try simp only [Act.put, List.setIfInBounds_toArray, List.set_cons_zero, List.set_cons_succ]
      refine takeq (i := 3) 20 (v := ?v4) rfl rfl (by kernel_rfl) (by kernel_rfl) (by kernel_rfl) (fun _ _ _ h => h) (Or.inl ⟨by rfl, ?y4⟩) hHeld ?r4
      case y4 => (intro w' hSw; skip; go_simp; (try with_reducible rfl))
      try simp only [Act.put, List.setIfInBounds_toArray, List.set_cons_zero, List.set_cons_succ]
      refine wpAnyH_ready (rs := [4]) (by kernel_rfl) (by simp) ?_
      refine AllReadyH.cons rfl (fun K hK => ?_) AllReadyH.nil
      go_simp
      refine hT2.mono ?_
      rintro e w3 ⟨⟨tk, tn, ts, ta, tl, tc, bs, rfl, hn, hs, hl, hT⟩, hp3, hc3⟩
      have HM3 : Hid (SM3 w w3 g G q a len cap f) := HMD.out.past hp3 hc3 hgl
      have hx : (⟨true, ⟨⟨tk, ta, tl, tc, tn, ts⟩, bs⟩⟩ : CB).lies w.heap.size w3 := ⟨hT.bsf (Nat.le_trans HM2.out.p.size (by simp)), hn.1, hn.2, by show _ ≤ ts; omega, by show ts ≤ _; omega⟩
      have HM4 : Hid (SM3 w (w3.setCells G (k * 5) [.bool true, .int .i64 tk, .slice ta tl tc, .int .i64 tn, .int .i64 ts]) g G q a len cap (fun j => if j = k then (⟨true, ⟨⟨tk, ta, tl, tc, tn, ts⟩, bs⟩⟩ : CB) else f j)) := HM3.out.put hgl HC.out k hlk (⟨true, ⟨⟨tk, ta, tl, tc, tn, ts⟩, bs⟩⟩ : CB) hx
      have st : w3.there G (k * 5) 5 := HM3.out.s.ob.there (k * 5) 5 (by show k * 5 + 5 ≤ 15; omega)
      have on : (#[.bool true, .int .i64 tk, .slice ta tl tc, .int .i64 tn, .int .i64 ts] : Array Value).all (·.oneCell') = true := all_oneCell_toArray (cs := [.bool true, .int .i64 tk, .slice ta tl tc, .int .i64 tn, .int .i64 ts]) (by simp [Value.oneCell'])
      have hq3 : w3.cell? ⟨q, 0, none⟩ = some (.slice (some ⟨G, 0, none⟩) 3 3) := (HM3.out.qx.2 0 _ rfl).1
      clear hT2 hT hx hp3 hc3 hC2
      go_wp2_with fail
      refine hK.out _ _ ?_ (fun hHeld => ?_)
      · exact hq3
      clear hK K
      try simp only [Act.put, List.setIfInBounds_toArray, List.set_cons_zero, List.set_cons_succ]
      refine takeq (i := 5) 22 (v := ?v5) rfl rfl (by kernel_rfl) (by kernel_rfl) (by kernel_rfl) (fun _ _ _ h => h) (Or.inl ⟨by rfl, ?y5⟩) hHeld ?r5
      case y5 => (intro w' hSw; skip; go_simp; (try with_reducible rfl))
      try simp only [Act.put, List.setIfInBounds_toArray, List.set_cons_zero, List.set_cons_succ]
      refine takeq (i := 6) 23 (v := ?v6) rfl rfl (by kernel_rfl) (by kernel_rfl) (by kernel_rfl) (fun _ _ _ h => h) (Or.inl ⟨by rfl, ?y6⟩) hHeld ?r6
      case y6 => (intro w' hSw; skip; go_simp; (try with_reducible rfl))
      try simp only [Act.put, List.setIfInBounds_toArray, List.set_cons_zero, List.set_cons_succ]
      refine wpAnyH_ready (rs := [7]) (by kernel_rfl) (by simp) ?_
      refine AllReadyH.cons rfl (fun K hK => ?_) AllReadyH.nil
      refine step_store_five rfl 56 _ _ rfl G (k * 5) #[.bool true, .int .i64 tk, .slice ta tl tc, .int .i64 tn, .int .i64 ts] rfl rfl st (by kernel_rfl) on ?_
      refine hK.out _ _ ?_ (fun hHeld => ?_)
      · exact (HM4.out.qx.2 0 _ rfl).1
      clear hK K
      try simp only [Act.put, List.setIfInBounds_toArray]
      refine wpAnyH_done (by kernel_rfl) ?_ _
      go_wp2_with fail
      go_roundw
      case rel => exact ⟨k + 1, _, by omega, by go_num, HM4⟩
      case measure => simp [intOf]; omega
    · obtain rfl : k = 3 := by omega
      have st : wr.there w.heap.size 0 1 := HM.out.r.there 0 1 (by simp)
      have on : (#[.slice (some ⟨G, 0, none⟩) 3 3] : Array Value).all (·.oneCell') = true := all_oneCell_toArray (cs := [.slice (some ⟨G, 0, none⟩) 3 3]) (by simp [Value.oneCell'])
      have lr : wr.rangeAt q 0 [.slice (some ⟨G, 0, none⟩) 3 3] := HM.out.qx.box.range 0 _ rfl
      go_wp2_with (first | (with_reducible refine wpr_at ?_; refine wpList_load_mid rfl 32 _ rfl _ _ rfl [.slice (some ⟨G, 0, none⟩) 3 3] _ lr Try.underlying32 rfl (by kernel_rfl) ?_; try simp only [Act.put, List.setIfInBounds_toArray, List.set_cons_zero, List.set_cons_succ]) | (with_reducible refine wpr_at ?_; refine wpList_store_mid rfl 32 _ _ rfl _ _ _ rfl rfl st (by kernel_rfl) on ?_; try simp only [Act.put]))
      have hrd : (wr.setCells w.heap.size 0 [.slice (some ⟨G, 0, none⟩) 3 3]).rangeAt w.heap.size 0 [.slice (some ⟨G, 0, none⟩) 3 3] := World.rangeAt_setCells_same _ _ _ _ st
      refine bodyPost_ret (v := .agg #[.slice (some ⟨G, 0, none⟩) 3 3]) ?hr rfl ?hp
      case hr => exact results_cell rfl rfl (run_loadVar_mid (P := Try.prog) _ w.heap.size 0 32 [.slice (some ⟨G, 0, none⟩) 3 3] _ hrd Try.underlying32 rfl (by kernel_rfl))
      have hb := but_sets w.heap.size [.slice (some ⟨G, 0, none⟩) 3 3] 0 wr
      have hp := past_sets [.slice (some ⟨G, 0, none⟩) 3 3] 0 HM.out.p (Nat.le_refl _)
      refine ⟨G, f, rfl, ⟨HM.out.s.lo, HM.out.s.ob.but hb HM.out.gq.2.2, fun j hj => ⟨⟨Bs.sets _ _ (HM.out.s.tx j hj).1.1 HM.out.r fun c h1 h2 => ?_, (HM.out.s.tx j hj).1.2⟩, (HM.out.s.tx j hj).2⟩⟩, hp, HC.out.glue HM.out.c hp (hb.block g (by omega))⟩
      have hc0 : c = 0 := by simp at h2; omega
      subst hc0
      exact ⟨_, rfl, fun z hz => by cases hz⟩
end Go.Proofs.Ytidhcbjhggdncaa

/- TvU -/
namespace Go.Proofs.Ytidhcbjhggdncaa
open Go.RowKit Go.Deep
set_option maxRecDepth 100000

/-- What DrawValue answers. -/
def ValueDrawn (w : World) (r : Ending) (w' : World) : Prop := ∃ (e : ET) (x : VW), r = .returned (.tuple #[.agg #[.int .i64 e.d.k, .int .i64 e.d.op, .slice e.d.v.a e.d.v.len e.d.v.cap, .int .i64 e.d.t.t.k, .slice e.d.t.t.a e.d.t.t.len e.d.t.t.cap, .int .i64 e.d.t.t.n, .int .i64 e.d.t.t.s, .slice e.d.ka e.d.n e.d.kc], .slice x.va x.vn x.vc, .agg #[.slice x.s.a x.s.n x.s.cap]]) ∧ e.lies 0 w' ∧ lvE e 4 ∧ x.lies 0 w' ∧ Below w.heap.size w w'
theorem drawExpr3 (g : Nat) (a : Option Addr) (len cap : Nat) (w : World) (hlen : len ≤ 9223372036854775807) (hC : Cur w g a len cap) : Calls Try.prog 16 #[.pointer (some ⟨g, 0, none⟩), .int .i64 3] w (ExprDrawn g a len cap 4 w) := by
  have d0 : ∀ W, Cur W g a len cap → Calls Try.prog 16 #[.pointer (some ⟨g, 0, none⟩), .int .i64 (1 - 1)] W (ExprDrawn g a len cap 1 W) := fun W h => draw_0 g a len cap 0 W hlen h
  have d1 : ∀ W, Cur W g a len cap → Calls Try.prog 16 #[.pointer (some ⟨g, 0, none⟩), .int .i64 (2 - 1)] W (ExprDrawn g a len cap 2 W) := fun W h => draw_step g a len cap 1 1 W hlen (by omega) (by omega) h d0
  have d2 : ∀ W, Cur W g a len cap → Calls Try.prog 16 #[.pointer (some ⟨g, 0, none⟩), .int .i64 (3 - 1)] W (ExprDrawn g a len cap 3 W) := fun W h => draw_step g a len cap 2 2 W hlen (by omega) (by omega) h d1
  exact draw_step g a len cap 3 3 w hlen (by omega) (by omega) hC d2
/-- In the middle of DrawValue: what has been drawn lies, the boxes stand. -/
structure DV (w W : World) (g b6 b8 : Nat) (a : Option Addr) (len cap : Nat) (e : ET) (va : Option Addr) (vn vc : Nat) (var : Nat → SL) (s : SO) : Prop where
  bl : Below w.heap.size w W
  r2 : OB W w.heap.size [.int .i64 0, .int .i64 0, .slice none 0 0, .int .i64 0, .slice none 0 0, .int .i64 0, .int .i64 0, .slice none 0 0]
  r4 : OB W (w.heap.size + 1) [.slice none 0 0]
  x6 : OB W b6 [.int .i64 e.d.k, .int .i64 e.d.op, .slice e.d.v.a e.d.v.len e.d.v.cap, .int .i64 e.d.t.t.k, .slice e.d.t.t.a e.d.t.t.len e.d.t.t.cap, .int .i64 e.d.t.t.n, .int .i64 e.d.t.t.s, .slice e.d.ka e.d.n e.d.kc]
  x8 : OB W b8 [.slice s.a s.n s.cap]
  gt : w.heap.size + 1 < g ∧ g < b6 ∧ b6 < b8
  el : e.lies (g + 1) W
  lv : lvE e 4
  vl : KRow (g + 1) W 1 va vn (fun i => (var i).cells) ∧ (∀ i, i < vn → (var i).lies (g + 1) W) ∧ vn ≤ 1048576
  sl : s.lies (g + 1) W
theorem frzV (w : World) (x : Int) (t : TypeId) : (w.alloc (.cells #[.int .u8 x] t (1, 2))).frozen? ⟨w.heap.size, 0, none⟩ = false := by
  have h1 : (w.alloc (.cells #[.int .u8 x] t (1, 2))).heap[w.heap.size]? = some (.cells #[.int .u8 x] t (1, 2)) := by
    show (w.heap.push _)[w.heap.size]? = _
    rw [Array.getElem?_push]
    simp
  unfold World.frozen?
  rw [h1]
  rfl
theorem OB.newV (w : World) (x : Int) (t : TypeId) : OB (w.alloc (.cells #[.int .u8 x] t (1, 2))) w.heap.size [.int .u8 x] := by
  refine ⟨by simp, fun c u hu => ?_⟩
  cases c with
  | zero => cases hu; exact ⟨(Box.new w #[.int .u8 x] t _).2 0 _ rfl, frzV w x t⟩
  | succ c => cases hu
theorem conv_oneV (W : World) (H : Nat) (hH : H = W.heap.size) (x : Int) : (convert 22 22 (.slice (some ⟨H, 0, none⟩) 1 1)).run Try.prog (W.alloc (.cells #[.int .u8 x] 5)) = .ok (.slice (some ⟨H, 0, none⟩) 1 1) (W.alloc (.cells #[.int .u8 x] 5 (1, 2))) := by
  subst hH
  exact Lib.run_convert_bytes_const W 22 5 #[.int .u8 x] 1 1 Try.underlying22 Try.underlying5
theorem OB1 (w : World) (x : Int) (t : TypeId) (B : Nat) (hB : B ≤ w.heap.size) (hx : 0 ≤ x ∧ x ≤ 255) : BsF B (w.alloc (.cells #[.int .u8 x] t (1, 2))) ⟨some ⟨w.heap.size, 0, none⟩, 1, 1, [x]⟩ := by
  have h := OB.newV w x t
  refine ⟨⟨rfl, by show 1 ≤ 1048576; decide, fun i => ?_, .inr ⟨w.heap.size, 0, rfl, h.1, fun i hi => ?_⟩⟩, .inr fun p hp => by cases hp; exact hB⟩
  · cases i with
    | zero => exact hx
    | succ i => show 0 ≤ ([] : List Int)[i]?.getD 0 ∧ ([] : List Int)[i]?.getD 0 ≤ 255; simp
  · have hi0 : i = 0 := by have h1 : i < 1 := hi; omega
    subst hi0
    exact (h.2 0 _ rfl).1
/-- The three texts and their row. -/
def varV (H : Nat) (i : Nat) : SL := ⟨some ⟨H + i, 0, none⟩, 1, 1, [120 + (i : Int)]⟩
theorem vars3 (W : World) (B : Nat) (hB : B ≤ W.heap.size) : RV ((((W.alloc (.cells #[.int .u8 120] 5 (1, 2))).alloc (.cells #[.int .u8 121] 5 (1, 2))).alloc (.cells #[.int .u8 122] 5 (1, 2))).alloc (.cells #[.slice (some ⟨W.heap.size, 0, none⟩) 1 1, .slice (some ⟨W.heap.size + 1, 0, none⟩) 1 1, .slice (some ⟨W.heap.size + 2, 0, none⟩) 1 1] 22)) B (.slice (some ⟨W.heap.size + 3, 0, none⟩) 3 3) [varV W.heap.size 0, varV W.heap.size 1, varV W.heap.size 2] ∧ ∀ y ∈ [varV W.heap.size 0, varV W.heap.size 1, varV W.heap.size 2], BsF B ((((W.alloc (.cells #[.int .u8 120] 5 (1, 2))).alloc (.cells #[.int .u8 121] 5 (1, 2))).alloc (.cells #[.int .u8 122] 5 (1, 2))).alloc (.cells #[.slice (some ⟨W.heap.size, 0, none⟩) 1 1, .slice (some ⟨W.heap.size + 1, 0, none⟩) 1 1, .slice (some ⟨W.heap.size + 2, 0, none⟩) 1 1] 22)) y := by
  have e1 : (W.alloc (.cells #[.int .u8 120] 5 (1, 2))).heap.size = W.heap.size + 1 := by simp
  have e2 : ((W.alloc (.cells #[.int .u8 120] 5 (1, 2))).alloc (.cells #[.int .u8 121] 5 (1, 2))).heap.size = W.heap.size + 2 := by simp
  have e3 : (((W.alloc (.cells #[.int .u8 120] 5 (1, 2))).alloc (.cells #[.int .u8 121] 5 (1, 2))).alloc (.cells #[.int .u8 122] 5 (1, 2))).heap.size = W.heap.size + 3 := by simp
  have h0 := OB1 W 120 5 B hB (by omega)
  have h1 := OB1 (W.alloc (.cells #[.int .u8 120] 5 (1, 2))) 121 5 B (by rw [e1]; omega) (by omega)
  have h2 := OB1 ((W.alloc (.cells #[.int .u8 120] 5 (1, 2))).alloc (.cells #[.int .u8 121] 5 (1, 2))) 122 5 B (by rw [e2]; omega) (by omega)
  rw [e1] at h1
  rw [e2] at h2
  refine ⟨⟨⟨rfl, .inr ⟨W.heap.size + 3, 3, #[.slice (some ⟨W.heap.size, 0, none⟩) 1 1, .slice (some ⟨W.heap.size + 1, 0, none⟩) 1 1, .slice (some ⟨W.heap.size + 2, 0, none⟩) 1 1], rfl, by omega, ?_, Nat.le_refl _, by unfold maxLen; omega, rfl, rfl⟩⟩, fun g hg => ?_⟩, fun y hy => ?_⟩
  · rw [← e3]
    show ((((W.alloc (.cells #[.int .u8 120] 5 (1, 2))).alloc (.cells #[.int .u8 121] 5 (1, 2))).alloc (.cells #[.int .u8 122] 5 (1, 2))).heap.push _)[_]? = _
    rw [Array.getElem?_push]
    simp
  · have e : W.heap.size + 3 = g := by simpa [Value.ownBlock] using hg
    subst e
    refine ⟨by omega, ?_⟩
    rw [← e3]
    simp
  · simp only [List.mem_cons, List.not_mem_nil, or_false] at hy
    rcases hy with rfl | rfl | rfl
    · exact (((h0.upper (Upper.of_below (bl_a _))).upper (Upper.of_below (bl_a _))).upper (Upper.of_below (bl_a _)))
    · exact ((h1.upper (Upper.of_below (bl_a _))).upper (Upper.of_below (bl_a _)))
    · exact (h2.upper (Upper.of_below (bl_a _)))
end Go.Proofs.Ytidhcbjhggdncaa
