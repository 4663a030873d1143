/- Texts put together: TbR TbS TbT TbU TbV -/
import Derived.Test.YtganfiajhokkmaaDoorNk02
import Derived.Test.YtganfiajhokkmaaDoorNk04
/- TbR -/
namespace Go.Proofs.YtganfiajhokkmaaDoor
open Go.RowKit Go.Deep
set_option maxRecDepth 100000

theorem wpr_at {P : Program} {ops : Array Oper} {rest : List Oper} {op : Oper} {a : Act} {w : World} {Q : Exit → Act → World → Prop} (h : wpList P ops Q (op :: rest) a w) : wpList P ops Q (op :: rest) a w := h
theorem run_make2 (w : World) :
    (Instr.makeSlice 34 (.int .i64 2) (.int .i64 2)).run Tryd.prog w = .ok (.slice (some ⟨w.heap.size, 0, none⟩) 2 2) (w.alloc (.cells #[.bool false, .int .i64 0, .slice none 0 0, .int .i64 0, .int .i64 0, .bool false, .int .i64 0, .slice none 0 0, .int .i64 0, .int .i64 0] 41)) := by
  have hi0 : (Tryd.prog.info? 41).map (fun i => (i.zero, i.size, i.bytes)) = some (some (.agg #[.bool false, .int .i64 0, .slice none 0 0, .int .i64 0, .int .i64 0]), 5, 56) := by kernel_rfl
  obtain ⟨i, hi, hzz⟩ := Option.map_eq_some_iff.1 hi0
  simp only [Prod.mk.injEq] at hzz
  obtain ⟨hz, hs, hb⟩ := hzz
  have hr := run_make (P := Tryd.prog) w 34 41 i _ Tryd.underlying34 hi hz .i64 .i64 2 2 (by omega) (Int.le_refl _) (by rw [hb]; omega) (by omega)
  simp only [hs, Value.cells] at hr
  have e : madeCells #[.bool false, .int .i64 0, .slice none 0 0, .int .i64 0, .int .i64 0] (Int.toNat 2 * 5) = #[.bool false, .int .i64 0, .slice none 0 0, .int .i64 0, .int .i64 0, .bool false, .int .i64 0, .slice none 0 0, .int .i64 0, .int .i64 0] := by kernel_rfl
  rw [e] at hr
  exact hr
theorem l6unit_two (w : World) : Calls Tryd.prog 43 #[.int .i64 2] w fun e w' => ∃ G, e = .returned (.agg #[.slice (some ⟨G, 0, none⟩) 2 2]) ∧ w.heap.size ≤ G ∧ OB w' G [.bool false, .int .i64 0, .slice none 0 0, .int .i64 0, .int .i64 0, .bool false, .int .i64 0, .slice none 0 0, .int .i64 0, .int .i64 0] ∧ Below w.heap.size w w' := by
  have hmk := run_make2
  have st : ((w.alloc (.cells #[.slice none 0 0] 36)).alloc (.cells #[.bool false, .int .i64 0, .slice none 0 0, .int .i64 0, .int .i64 0, .bool false, .int .i64 0, .slice none 0 0, .int .i64 0, .int .i64 0] 41)).there w.heap.size 0 1 := ((OB.new w #[.slice none 0 0] 36).below (bl_a _)).there 0 1 (by simp)
  have on : (#[.slice (some ⟨w.heap.size + 1, 0, none⟩) 2 2] : Array Value).all (·.oneCell') = true := all_oneCell_toArray (cs := [.slice (some ⟨w.heap.size + 1, 0, none⟩) 2 2]) (by simp [Value.oneCell'])
  go_enter Tryd.func43, Tryd.ntmps43
  go_wp2_with (with_reducible refine wpr_at ?_; refine wpList_store_mid rfl 36 _ _ rfl _ _ _ rfl rfl st (by kernel_rfl) on ?_; try simp only [Act.put])
  have hrd : (((w.alloc (.cells #[.slice none 0 0] 36)).alloc (.cells #[.bool false, .int .i64 0, .slice none 0 0, .int .i64 0, .int .i64 0, .bool false, .int .i64 0, .slice none 0 0, .int .i64 0, .int .i64 0] 41)).setCells w.heap.size 0 [.slice (some ⟨w.heap.size + 1, 0, none⟩) 2 2]).rangeAt w.heap.size 0 [.slice (some ⟨w.heap.size + 1, 0, none⟩) 2 2] := World.rangeAt_setCells_same _ _ _ _ st
  refine bodyPost_ret (v := .agg #[.slice (some ⟨w.heap.size + 1, 0, none⟩) 2 2]) ?hr rfl ?hp
  case hr => exact results_cell rfl rfl (run_loadVar_mid (P := Tryd.prog) _ w.heap.size 0 36 [.slice (some ⟨w.heap.size + 1, 0, none⟩) 2 2] _ hrd Tryd.underlying36 rfl (by kernel_rfl))
  have hO : OB (((w.alloc (.cells #[.slice none 0 0] 36)).alloc (.cells #[.bool false, .int .i64 0, .slice none 0 0, .int .i64 0, .int .i64 0, .bool false, .int .i64 0, .slice none 0 0, .int .i64 0, .int .i64 0] 41)).setCells w.heap.size 0 [.slice (some ⟨w.heap.size + 1, 0, none⟩) 2 2]) (w.heap.size + 1) [.bool false, .int .i64 0, .slice none 0 0, .int .i64 0, .int .i64 0, .bool false, .int .i64 0, .slice none 0 0, .int .i64 0, .int .i64 0] := by
    have h := OB.new (w.alloc (.cells #[.slice none 0 0] 36)) #[.bool false, .int .i64 0, .slice none 0 0, .int .i64 0, .int .i64 0, .bool false, .int .i64 0, .slice none 0 0, .int .i64 0, .int .i64 0] 41
    have e : (w.alloc (.cells #[.slice none 0 0] 36)).heap.size = w.heap.size + 1 := by simp
    rw [e] at h
    exact h.but (but_sets _ _ _ _) (by omega)
  exact ⟨w.heap.size + 1, rfl, by omega, hO, below_sets _ (Nat.le_refl _) _ _ _ (bl_alloc (bl_a _) _)⟩
end Go.Proofs.YtganfiajhokkmaaDoor

/- TbS -/
namespace Go.Proofs.YtganfiajhokkmaaDoor
open Go.RowKit Go.Deep
set_option maxRecDepth 100000

/-- A solution of two cells that was drawn: its cells lie in the block G. -/
structure S2 (w : World) (B G : Nat) (f : Nat → CB) : Prop where
  lo : B ≤ G
  ob : OB w G ((f 0).cells ++ (f 1).cells)
  tx : ∀ j, j < 2 → (f j).lies B w
theorem OB.past {w w' : World} {g b : Nat} {L : List Value} (h : OB w b L) (hp : Past g w w') (hne : b ≠ g) : OB w' b L := ⟨Nat.lt_of_lt_of_le h.1 hp.size, fun c u hu => ⟨(hp.cell (p := ⟨b, c, none⟩) h.1 hne).trans (h.2 c u hu).1, (hp.frozen (p := ⟨b, c, none⟩) h.1 hne).trans (h.2 c u hu).2⟩⟩
theorem Bs.past' {w w' : World} {g len : Nat} {a : Option Addr} {bs : List Int} (h : Bs w a len bs) (hp : Past g w w') (hne : len = 0 ∨ ∀ p, a = some p → p.block ≠ g) : Bs w' a len bs := by
  obtain ⟨h1, h2, h3, h4⟩ := h
  refine ⟨h1, h2, h3, ?_⟩
  rcases h4 with h4 | ⟨b, off, ha, hlt, hc⟩
  · exact .inl h4
  rcases hne with h0 | hne
  · exact .inl h0
  exact .inr ⟨b, off, ha, Nat.lt_of_lt_of_le hlt hp.size, fun i hi => (hp.cell (p := ⟨b, off + i, none⟩) hlt (hne ⟨b, off, none⟩ ha)).trans (hc i hi)⟩
theorem BsF.past {w w' : World} {B g : Nat} {x : SL} (h : BsF B w x) (hp : Past g w w') (hg : g < B) : BsF B w' x := ⟨h.1.past' hp (h.2.imp id fun k p hpp => by have := k p hpp; omega), h.2⟩
theorem CB.lies.past {w w' : World} {B g : Nat} {x : CB} (h : x.lies B w) (hp : Past g w w') (hg : g < B) : x.lies B w' := ⟨h.1.past hp hg, h.2⟩
theorem S2.past {w w' : World} {B G g : Nat} {f : Nat → CB} (h : S2 w B G f) (hp : Past g w w') (hg : g < B) : S2 w' B G f := ⟨h.lo, h.ob.past hp (by have := h.lo; omega), fun j hj => (h.tx j hj).past hp hg⟩
theorem S2.below {w w' : World} {B G : Nat} {f : Nat → CB} (h : S2 w B G f) (hb : Below w.heap.size w w') : S2 w' B G f := ⟨h.lo, h.ob.below hb, fun j hj => ⟨⟨(h.tx j hj).1.1.below hb, (h.tx j hj).1.2⟩, (h.tx j hj).2⟩⟩
/-- Writing a cell of other kinds than a byte leaves texts alone. -/
theorem Bs.set {w : World} {g i len : Nat} {a : Option Addr} {bs : List Int} {u v : Value} (h : Bs w a len bs) (hu : w.cell? ⟨g, i, none⟩ = some u) (hn : ∀ z, u ≠ .int .u8 z) : Bs (w.setCell ⟨g, i, none⟩ v) a len bs := by
  obtain ⟨h1, h2, h3, h4⟩ := h
  refine ⟨h1, h2, h3, ?_⟩
  rcases h4 with h4 | ⟨b, off, ha, hlt, hc⟩
  · exact .inl h4
  refine .inr ⟨b, off, ha, by simpa using hlt, fun k hk => ?_⟩
  have hck := hc k hk
  by_cases e : b = g ∧ off + k = i
  · obtain ⟨rfl, rfl⟩ := e
    rw [hu] at hck
    exact absurd (Option.some.inj hck) (hn _)
  · by_cases hb : b = g
    · subst hb
      rw [set_other (fun e' => e ⟨rfl, e'⟩)]
      exact hck
    · rw [World.cell?_of_block (w := w) (Below.heap_setCell _ _ _ _ hb)]
      exact hck
theorem Bs.sets {g len : Nat} {a : Option Addr} {bs : List Int} : ∀ (vs : List Value) (o : Nat) {w : World} {L : List Value}, Bs w a len bs → OB w g L → (∀ j, o ≤ j → j < o + vs.length → ∃ u, L[j]? = some u ∧ ∀ z, u ≠ .int .u8 z) → Bs (w.setCells g o vs) a len bs
  | [], _, _, _, h, _, _ => h
  | v :: r, o, w, L, h, ho, hk => by
    obtain ⟨u, hu, hn⟩ := hk o (Nat.le_refl _) (by simp)
    refine Bs.sets r (o + 1) (h.set (ho.2 o u hu).1 hn) (ho.set o v) fun j h1 h2 => ?_
    obtain ⟨u', hu', hn'⟩ := hk j (by omega) (by simp only [List.length_cons]; omega)
    exact ⟨u', by rw [List.getElem?_set, if_neg (by omega)]; exact hu', hn'⟩
theorem cb_kind (x : CB) (c : Nat) (u : Value) (h : x.cells[c]? = some u) : ∀ z, u ≠ .int .u8 z := by
  intro z hz
  subst hz
  simp only [CB.cells] at h
  rcases (by omega : c = 0 ∨ c = 1 ∨ c = 2 ∨ c = 3 ∨ c = 4 ∨ 5 ≤ c) with rfl | rfl | rfl | rfl | rfl | h5
  all_goals first | (simp at h; done) | skip
  rw [List.getElem?_eq_none (by simpa using h5)] at h
  cases h
theorem two_kind (x y : CB) (c : Nat) (hc : c < 10) : ∃ u, (x.cells ++ y.cells)[c]? = some u ∧ ∀ z, u ≠ .int .u8 z := by
  have hx : x.cells.length = 5 := rfl
  have hy : y.cells.length = 5 := rfl
  have hl : c < (x.cells ++ y.cells).length := by rw [List.length_append]; omega
  refine ⟨_, List.getElem?_eq_getElem hl, ?_⟩
  have e := List.getElem?_eq_getElem hl
  by_cases h5 : c < 5
  · rw [List.getElem?_append_left (by omega)] at e
    exact cb_kind x c _ e
  · rw [List.getElem?_append_right (by omega)] at e
    exact cb_kind y _ _ e
/-- Putting the cell j anew. -/
theorem S2.put {w : World} {B G : Nat} {f : Nat → CB} (h : S2 w B G f) (k : Nat) (hk : k < 2) (x : CB) (hx : x.lies B w) : S2 (w.setCells G (k * 5) x.cells) B G (fun j => if j = k then x else f j) := by
  have hkind : ∀ c, k * 5 ≤ c → c < k * 5 + x.cells.length → ∃ u, ((f 0).cells ++ (f 1).cells)[c]? = some u ∧ ∀ z, u ≠ .int .u8 z := fun c _ h2 => two_kind _ _ c (by have : x.cells.length = 5 := rfl; omega)
  have tx : ∀ y : CB, y.lies B w → y.lies B (w.setCells G (k * 5) x.cells) := fun y hy => ⟨⟨Bs.sets _ _ hy.1.1 h.ob hkind, hy.1.2⟩, hy.2⟩
  refine ⟨h.lo, ?_, fun j hj => ?_⟩
  · have ho := h.ob.sets x.cells (k * 5)
    rcases (by omega : k = 0 ∨ k = 1) with rfl | rfl
    · exact ho
    · exact ho
  · show CB.lies B _ (if j = k then x else f j)
    split
    · exact tx x hx
    · exact tx _ (h.tx j hj)
def SolDrawn (g : Nat) (a : Option Addr) (len cap : Nat) (w : World) (e : Ending) (w' : World) : Prop := ∃ (G : Nat) (f : Nat → CB), e = .returned (.agg #[.slice (some ⟨G, 0, none⟩) 2 2]) ∧ S2 w' w.heap.size G f ∧ Past g w w' ∧ Cur w' g a len cap
end Go.Proofs.YtganfiajhokkmaaDoor

/- TbT -/
namespace Go.Proofs.YtganfiajhokkmaaDoor
open Go.RowKit Go.Deep
set_option maxRecDepth 100000

theorem step_store_five {ops : Array Oper} {op : Oper} {a : Act} {w : World} {K : Act → World → Prop} {Q : Exit → Act → World → Prop} {E : Prop} (hgd : op.guard = none) (ty : TypeId) (x y : Operand) (ho : op.op = .store ty x y)
    (b o : Nat) (cells : Array Value) (hx : a.eval x = .pointer (some ⟨b, o, none⟩)) (hy : a.eval y = .agg cells)
    (ht : w.there b o cells.size) (hi : (Tryd.prog.info? ty).map (·.size) = some cells.size) (h1 : cells.all (·.oneCell') = true)
    (h : K (a.put op.dst undef) (w.setCells b o cells.toList)) : if Region.wanted op (yielded ops a.tmps) = true then Oper.wp Tryd.prog op a w K Q else E := by
  have hw : Region.wanted op (yielded ops a.tmps) = true := by simp [Region.wanted, hgd]
  rw [if_pos hw]
  exact wp_store_mid ty x y ho b o cells hx hy ht hi h1 h
theorem Tx.bsf {w : World} {B B' : Nat} {a : Option Addr} {len cap : Nat} {bs : List Int} (h : Tx w B a len cap bs) (hB : B' ≤ B) : BsF B' w ⟨a, len, cap, bs⟩ := by
  refine ⟨h.1, ?_⟩
  rcases h.2 with ⟨_, h0, _⟩ | ⟨g, ha, hg, _⟩
  · exact .inl h0
  · exact .inr fun p hp => by
      have e : some p = some ⟨g, 0, none⟩ := hp.symm.trans ha
      cases e
      exact Nat.le_trans hB hg
def zCB : CB := ⟨false, ⟨⟨0, none, 0, 0, 0, 0⟩, []⟩⟩
theorem zCB_lies (B : Nat) (w : World) : zCB.lies B w := by
  refine ⟨⟨⟨rfl, Nat.zero_le _, fun i => ?_, .inl rfl⟩, .inl rfl⟩, ?_⟩
  · show 0 ≤ ([] : List Int)[i]?.getD 0 ∧ ([] : List Int)[i]?.getD 0 ≤ 255
    simp
  · show -9223372036854775808 ≤ (0 : Int) ∧ (0 : Int) ≤ 9223372036854775807 ∧ -9223372036854775808 ≤ (0 : Int) ∧ (0 : Int) ≤ 9223372036854775807
    omega
/-- What stands in the middle of l6sol. -/
structure SM (w W : World) (g G q : Nat) (a : Option Addr) (len cap : Nat) (f : Nat → CB) : Prop where
  p : Past g w W
  c : Cur W g a len cap
  s : S2 W w.heap.size G f
  r : OB W w.heap.size [.slice none 0 0]
  qx : OB W q [.slice (some ⟨G, 0, none⟩) 2 2]
  gq : w.heap.size < q ∧ G < q ∧ G ≠ w.heap.size
theorem SM.past {w W W' : World} {g G q : Nat} {a : Option Addr} {len cap : Nat} {f : Nat → CB} (h : SM w W g G q a len cap f) (hp : Past g W W') (hc : Cur W' g a len cap) (hg : g < w.heap.size) : SM w W' g G q a len cap f :=
  ⟨h.p.trans hp, hc, h.s.past hp hg, h.r.past hp (by omega), h.qx.past hp (by have := h.gq.1; omega), h.gq⟩
theorem SM.below {w W W' : World} {g G q : Nat} {a : Option Addr} {len cap : Nat} {f : Nat → CB} (h : SM w W g G q a len cap f) (hb : Below W.heap.size W W') : SM w W' g G q a len cap f :=
  ⟨h.p.trans (Past.of_below hb), h.c.below hb, h.s.below hb, h.r.below hb, h.qx.below hb, h.gq⟩
theorem past_sets {g G : Nat} {w : World} : ∀ (vs : List Value) (o : Nat) {W : World}, Past g w W → w.heap.size ≤ G → Past g w (W.setCells G o vs)
  | [], _, _, h, _ => h
  | v :: r, o, _, h, hG => past_sets r (o + 1) (h.set_new (p := ⟨G, o, none⟩) hG v) hG
theorem SM.put {w W : World} {g G q : Nat} {a : Option Addr} {len cap : Nat} {f : Nat → CB} (h : SM w W g G q a len cap f) (hg : g < w.heap.size) (hC : Cur w g a len cap) (k : Nat) (hk : k < 2) (x : CB) (hx : x.lies w.heap.size W) : SM w (W.setCells G (k * 5) x.cells) g G q a len cap (fun j => if j = k then x else f j) := by
  have hG := h.s.lo
  have hp := past_sets x.cells (k * 5) h.p hG
  have hb := but_sets G x.cells (k * 5) W
  exact ⟨hp, hC.glue h.c hp (hb.block g (by omega)), h.s.put k hk x hx, h.r.but hb (Ne.symm h.gq.2.2), h.qx.but hb (by have := h.gq.2.1; omega), h.gq⟩

set_option maxHeartbeats 4000000 in
theorem l6sol_two (g : Nat) (a : Option Addr) (len cap : Nat) (w : World) (hlen : len ≤ 9223372036854775807) (hC : Cur w g a len cap) :
    Calls Tryd.prog 24 #[.pointer (some ⟨g, 0, none⟩), .int .i64 2] w (SolDrawn g a len cap w) := by
  have hgl := hC.lt
  have HC : Hid (Cur w g a len cap) := hC
  have HON : Hid (∀ W, Cur W g a len cap → Calls Tryd.prog 14 #[.pointer (some ⟨g, 0, none⟩), .int .i64 4] W fun e w' => ∃ p : Bool, e = .returned (.bool p) ∧ Past g W w' ∧ Cur w' g a len cap) := fun W h => l1Once_any g a len cap 4 W hlen h (by omega) (by omega)
  have HTM : Hid (∀ W, Cur W g a len cap → Calls Tryd.prog 26 #[.pointer (some ⟨g, 0, none⟩)] W (TermDrawn g a len cap W)) := fun W h => l1term_any g a len cap W hlen h
  have hU := l6unit_two (w.alloc (.cells #[.slice none 0 0] 36))
  clear hC
  go_enter Tryd.func24, Tryd.ntmps24
  go_wp2_with fail
  refine hU.mono ?_
  rintro e w1 ⟨G, rfl, hG, hO, hb1⟩
  have hG' : w.heap.size + 1 ≤ G := by simpa using hG
  have HR1 : Hid (OB w1 w.heap.size [.slice none 0 0]) := (OB.new w #[.slice none 0 0] 36).below hb1
  have HB1 : Hid (Below w.heap.size w w1) := bl_trans (bl_a _) hb1
  have HO1 : Hid (OB w1 G [.bool false, .int .i64 0, .slice none 0 0, .int .i64 0, .int .i64 0, .bool false, .int .i64 0, .slice none 0 0, .int .i64 0, .int .i64 0]) := hO
  have hGl := hO.1
  clear hU hG hO hb1
  have st : (w1.alloc (.cells #[.slice none 0 0] 36)).there w1.heap.size 0 1 := (OB.new w1 #[.slice none 0 0] 36).there 0 1 (by simp)
  have on : (#[.slice (some ⟨G, 0, none⟩) 2 2] : Array Value).all (·.oneCell') = true := all_oneCell_toArray (cs := [.slice (some ⟨G, 0, none⟩) 2 2]) (by simp [Value.oneCell'])
  have HM0 : Hid (SM w ((w1.alloc (.cells #[.slice none 0 0] 36)).setCells w1.heap.size 0 [.slice (some ⟨G, 0, none⟩) 2 2]) g G w1.heap.size a len cap (fun _ => zCB)) := by
    have hb : Below w1.heap.size w1 ((w1.alloc (.cells #[.slice none 0 0] 36)).setCells w1.heap.size 0 [.slice (some ⟨G, 0, none⟩) 2 2]) := below_sets _ (Nat.le_refl _) _ _ _ (bl_a _)
    have hw := bl_trans HB1.out hb
    refine ⟨Past.of_below hw, HC.out.below hw, ⟨by omega, HO1.out.below hb, fun j _ => zCB_lies _ _⟩, HR1.out.below hb, (OB.new w1 #[.slice none 0 0] 36).sets [.slice (some ⟨G, 0, none⟩) 2 2] 0, ?_, hGl, by omega⟩
    exact HR1.out.1
  go_upto_region 2 with (with_reducible refine wpr_at ?_; refine wpList_store_mid rfl 36 _ _ rfl _ _ _ rfl rfl st (by kernel_rfl) on ?_; try simp only [Act.put])
  generalize (w1.alloc (.cells #[.slice none 0 0] 36)).setCells w1.heap.size 0 [.slice (some ⟨G, 0, none⟩) 2 2] = W1 at *
  clear st on HR1 HB1 HO1
  generalize w1.heap.size = q at *
  go_wp2_with fail
  go_loopw [6] (fun i wr => ∃ (k : Nat) (f : Nat → CB), k ≤ 2 ∧ i = .int .i64 k ∧ Hid (SM w wr g G q a len cap f))
    (fun i _ => 2 - (intOf i).toNat)
  case atStart => exact ⟨0, _, Nat.zero_le _, rfl, HM0⟩
  case round =>
    obtain ⟨k, f, hk, rfl, HM⟩ := hrel
    clear HM0
    by_cases hlk : k < 2
    · have hlkz : (k : Int) < 2 := by omega
      go_wp2_with fail
      refine (HON.out _ HM.out.c).mono ?_
      rintro e w2 ⟨b, rfl, hp2, hc2⟩
      have HM2 : Hid (SM w w2 g G q a len cap f) := HM.out.past hp2 hc2 hgl
      clear hp2 hc2 HM
      cases b
      case true =>
        go_wp2_with fail
        go_roundw
        case rel => exact ⟨k + 1, f, by omega, by go_num, HM2⟩
        case measure => simp [intOf]; omega
      have hC2 : Cur w2.drew g a len cap := HM2.out.c.below (Below.drew (Below.refl _ _))
      have hT2 := HTM.out _ hC2
      have HMD : Hid (SM w w2.drew g G q a len cap f) := HM2.out.below (Below.drew (Below.refl _ _))
      have hq2 : w2.drew.cell? ⟨q, 0, none⟩ = some (.slice (some ⟨G, 0, none⟩) 2 2) := (HMD.out.qx.2 0 _ rfl).1
      go_wp2_with fail
      refine wp_region_held_drew (S := fun w' => w'.cell? ⟨q, 0, none⟩ = some (.slice (some ⟨G, 0, none⟩) 2 2)) (by kernel_rfl) ?_ (fun hHeld => ?_)
      · exact hq2
      refine takeq (i := 0) 17 (v := ?v1) rfl rfl (by kernel_rfl) (by kernel_rfl) (by kernel_rfl) (fun _ _ _ h => h) (Or.inl ⟨by rfl, ?y1⟩) hHeld ?r1
      case y1 => (intro w' hSw; skip; go_simp; (try with_reducible rfl))
      try simp only [Act.put, List.setIfInBounds_toArray, List.set_cons_zero, List.set_cons_succ]
      refine takeq (i := 1) 18 (v := ?v2) rfl rfl (by kernel_rfl) (by kernel_rfl) (by kernel_rfl) (fun _ _ _ h => h) (Or.inl ⟨by rfl, ?y2⟩) hHeld ?r2
      case y2 => (intro w' hSw; skip; go_simp; (try with_reducible rfl))
      try simp only [Act.put, List.setIfInBounds_toArray, List.set_cons_zero, List.set_cons_succ]
      refine takeq (i := 2) 19 (v := ?v3) rfl rfl (by kernel_rfl) (by kernel_rfl) (by kernel_rfl) (fun _ _ _ h => h) (Or.inl ⟨by rfl, ?y3⟩) hHeld ?r3
      case y3 => (intro w' hSw; skip; go_simp; (try with_reducible rfl))
      try simp only [Act.put, List.setIfInBounds_toArray, List.set_cons_zero, List.set_cons_succ]
      refine takeq (i := 3) 20 (v := ?v4) rfl rfl (by kernel_rfl) (by kernel_rfl) (by kernel_rfl) (fun _ _ _ h => h) (Or.inl ⟨by rfl, ?y4⟩) hHeld ?r4
      case y4 => (intro w' hSw; skip; go_simp; (try with_reducible rfl))
      try simp only [Act.put, List.setIfInBounds_toArray, List.set_cons_zero, List.set_cons_succ]
      refine wpAnyH_ready (rs := [4]) (by kernel_rfl) (by simp) ?_
      refine AllReadyH.cons rfl (fun K hK => ?_) AllReadyH.nil
      go_simp
      refine hT2.mono ?_
      rintro e w3 ⟨⟨tk, tn, ts, ta, tl, tc, bs, rfl, hn, hs, hl, hT⟩, hp3, hc3⟩
      have HM3 : Hid (SM w w3 g G q a len cap f) := HMD.out.past hp3 hc3 hgl
      have hx : (⟨true, ⟨⟨tk, ta, tl, tc, tn, ts⟩, bs⟩⟩ : CB).lies w.heap.size w3 := ⟨hT.bsf (Nat.le_trans HM2.out.p.size (by simp)), hn.1, hn.2, by show _ ≤ ts; omega, by show ts ≤ _; omega⟩
      have HM4 : Hid (SM w (w3.setCells G (k * 5) [.bool true, .int .i64 tk, .slice ta tl tc, .int .i64 tn, .int .i64 ts]) g G q a len cap (fun j => if j = k then (⟨true, ⟨⟨tk, ta, tl, tc, tn, ts⟩, bs⟩⟩ : CB) else f j)) := HM3.out.put hgl HC.out k hlk (⟨true, ⟨⟨tk, ta, tl, tc, tn, ts⟩, bs⟩⟩ : CB) hx
      have st : w3.there G (k * 5) 5 := HM3.out.s.ob.there (k * 5) 5 (by show k * 5 + 5 ≤ 10; omega)
      have on : (#[.bool true, .int .i64 tk, .slice ta tl tc, .int .i64 tn, .int .i64 ts] : Array Value).all (·.oneCell') = true := all_oneCell_toArray (cs := [.bool true, .int .i64 tk, .slice ta tl tc, .int .i64 tn, .int .i64 ts]) (by simp [Value.oneCell'])
      have hq3 : w3.cell? ⟨q, 0, none⟩ = some (.slice (some ⟨G, 0, none⟩) 2 2) := (HM3.out.qx.2 0 _ rfl).1
      clear hT2 hT hx hp3 hc3 hC2
      go_wp2_with fail
      refine hK.out _ _ ?_ (fun hHeld => ?_)
      · exact hq3
      clear hK K
      try simp only [Act.put, List.setIfInBounds_toArray, List.set_cons_zero, List.set_cons_succ]
      refine takeq (i := 5) 22 (v := ?v5) rfl rfl (by kernel_rfl) (by kernel_rfl) (by kernel_rfl) (fun _ _ _ h => h) (Or.inl ⟨by rfl, ?y5⟩) hHeld ?r5
      case y5 => (intro w' hSw; skip; go_simp; (try with_reducible rfl))
      try simp only [Act.put, List.setIfInBounds_toArray, List.set_cons_zero, List.set_cons_succ]
      refine takeq (i := 6) 23 (v := ?v6) rfl rfl (by kernel_rfl) (by kernel_rfl) (by kernel_rfl) (fun _ _ _ h => h) (Or.inl ⟨by rfl, ?y6⟩) hHeld ?r6
      case y6 => (intro w' hSw; skip; go_simp; (try with_reducible rfl))
      try simp only [Act.put, List.setIfInBounds_toArray, List.set_cons_zero, List.set_cons_succ]
      refine wpAnyH_ready (rs := [7]) (by kernel_rfl) (by simp) ?_
      refine AllReadyH.cons rfl (fun K hK => ?_) AllReadyH.nil
      refine step_store_five rfl 41 _ _ rfl G (k * 5) #[.bool true, .int .i64 tk, .slice ta tl tc, .int .i64 tn, .int .i64 ts] rfl rfl st (by kernel_rfl) on ?_
      refine hK.out _ _ ?_ (fun hHeld => ?_)
      · exact (HM4.out.qx.2 0 _ rfl).1
      clear hK K
      try simp only [Act.put, List.setIfInBounds_toArray]
      refine wpAnyH_done (by kernel_rfl) ?_ _
      go_wp2_with fail
      go_roundw
      case rel => exact ⟨k + 1, _, by omega, by go_num, HM4⟩
      case measure => simp [intOf]; omega
    · obtain rfl : k = 2 := by omega
      have st : wr.there w.heap.size 0 1 := HM.out.r.there 0 1 (by simp)
      have on : (#[.slice (some ⟨G, 0, none⟩) 2 2] : Array Value).all (·.oneCell') = true := all_oneCell_toArray (cs := [.slice (some ⟨G, 0, none⟩) 2 2]) (by simp [Value.oneCell'])
      have lr : wr.rangeAt q 0 [.slice (some ⟨G, 0, none⟩) 2 2] := HM.out.qx.box.range 0 _ rfl
      go_wp2_with (first | (with_reducible refine wpr_at ?_; refine wpList_load_mid rfl 36 _ rfl _ _ rfl [.slice (some ⟨G, 0, none⟩) 2 2] _ lr Tryd.underlying36 rfl (by kernel_rfl) ?_; try simp only [Act.put, List.setIfInBounds_toArray, List.set_cons_zero, List.set_cons_succ]) | (with_reducible refine wpr_at ?_; refine wpList_store_mid rfl 36 _ _ rfl _ _ _ rfl rfl st (by kernel_rfl) on ?_; try simp only [Act.put]))
      have hrd : (wr.setCells w.heap.size 0 [.slice (some ⟨G, 0, none⟩) 2 2]).rangeAt w.heap.size 0 [.slice (some ⟨G, 0, none⟩) 2 2] := World.rangeAt_setCells_same _ _ _ _ st
      refine bodyPost_ret (v := .agg #[.slice (some ⟨G, 0, none⟩) 2 2]) ?hr rfl ?hp
      case hr => exact results_cell rfl rfl (run_loadVar_mid (P := Tryd.prog) _ w.heap.size 0 36 [.slice (some ⟨G, 0, none⟩) 2 2] _ hrd Tryd.underlying36 rfl (by kernel_rfl))
      have hb := but_sets w.heap.size [.slice (some ⟨G, 0, none⟩) 2 2] 0 wr
      have hp := past_sets [.slice (some ⟨G, 0, none⟩) 2 2] 0 HM.out.p (Nat.le_refl _)
      refine ⟨G, f, rfl, ⟨HM.out.s.lo, HM.out.s.ob.but hb HM.out.gq.2.2, fun j hj => ⟨⟨Bs.sets _ _ (HM.out.s.tx j hj).1.1 HM.out.r fun c h1 h2 => ?_, (HM.out.s.tx j hj).1.2⟩, (HM.out.s.tx j hj).2⟩⟩, hp, HC.out.glue HM.out.c hp (hb.block g (by omega))⟩
      have hc0 : c = 0 := by simp at h2; omega
      subst hc0
      exact ⟨_, rfl, fun z hz => by cases hz⟩
end Go.Proofs.YtganfiajhokkmaaDoor

/- TbU -/
namespace Go.Proofs.YtganfiajhokkmaaDoor
open Go.RowKit Go.Deep
set_option maxRecDepth 100000

abbrev SD := Nat × (Nat → CB)
def SD.v (x : SD) : Value := .slice (some ⟨x.1, 0, none⟩) 2 2
/-- It lies outside the block g. -/
def Off (g : Nat) (x : SD) : Prop := x.1 ≠ g ∧ ∀ j, j < 2 → (x.2 j).t.t.len = 0 ∨ ∀ p, (x.2 j).t.t.a = some p → p.block ≠ g
theorem S2.off_low {w : World} {B g : Nat} {x : SD} (h : S2 w B x.1 x.2) (hg : g < B) : Off g x := ⟨by have := h.lo; omega, fun j hj => (h.tx j hj).1.2.imp id fun k p hp => by have := k p hp; omega⟩
theorem S2.off_new {w : World} {B g : Nat} {x : SD} (h : S2 w B x.1 x.2) (hg : w.heap.size ≤ g) : Off g x := by
  refine ⟨by have := h.ob.1; omega, fun j hj => ?_⟩
  rcases (h.tx j hj).1.1.2.2.2 with h0 | ⟨b, off, ha, hlt, _⟩
  · exact .inl h0
  · refine .inr fun p hp => ?_
    have e : some p = some ⟨b, off, none⟩ := hp.symm.trans ha
    cases e
    show b ≠ g
    omega
theorem S2.pastO {w w' : World} {B g : Nat} {x : SD} (h : S2 w B x.1 x.2) (hp : Past g w w') (ho : Off g x) : S2 w' B x.1 x.2 := ⟨h.lo, h.ob.past hp ho.1, fun j hj => ⟨⟨(h.tx j hj).1.1.past' hp (ho.2 j hj), (h.tx j hj).1.2⟩, (h.tx j hj).2⟩⟩
theorem S2.base {w : World} {B B' G : Nat} {f : Nat → CB} (h : S2 w B G f) (hB : B' ≤ B) : S2 w B' G f := ⟨Nat.le_trans hB h.lo, h.ob, fun j hj => (h.tx j hj).base hB⟩
/-- Solutions that were drawn, in a row of the call's own. -/
structure RS (w : World) (B : Nat) (v : Value) (l : List SD) : Prop where
  own : w.ownsRow B 36 1 v l.length (l.map SD.v)
  lo : ∀ g, v.ownBlock = some g → B ≤ g ∧ g < w.heap.size
  rows : ∀ x ∈ l, S2 w B x.1 x.2
  off : ∀ g, v.ownBlock = some g → ∀ x ∈ l, Off g x
theorem RS.nil (w : World) (B : Nat) : RS w B (.slice none 0 0) [] := ⟨World.ownsRow_nil _ _ _ _, fun g h => (by cases h), fun x hx => (by cases hx), fun g h => (by cases h)⟩
theorem RS.keep {w w' : World} {B : Nat} {v : Value} {l : List SD} (h : RS w B v l) (hs : w.heap.size ≤ w'.heap.size) (hb : ∀ g, v.ownBlock = some g → w'.heap[g]? = w.heap[g]?) (hr : ∀ x ∈ l, S2 w' B x.1 x.2) : RS w' B v l := by
  obtain ⟨⟨h1, h2⟩, hl, _, ho⟩ := h
  refine ⟨⟨h1, ?_⟩, fun c hc => ⟨(hl c hc).1, Nat.lt_of_lt_of_le (hl c hc).2 hs⟩, hr, ho⟩
  rcases h2 with h2 | ⟨g', cap', cur, hv, hB, hh, r⟩
  · exact .inl h2
  · refine .inr ⟨g', cap', cur, hv, hB, ?_, r⟩
    rw [hb g' (by rw [hv]; rfl)]
    exact hh
theorem RS.past {w w' : World} {B g : Nat} {v : Value} {l : List SD} (h : RS w B v l) (hp : Past g w w') (hg : g < B) : RS w' B v l := h.keep hp.size (fun c hc => hp.block c (h.lo c hc).2 (by have := (h.lo c hc).1; omega)) fun x hx => (h.rows x hx).past hp hg
theorem RS.below {w w' : World} {B : Nat} {v : Value} {l : List SD} (h : RS w B v l) (hb : Below w.heap.size w w') : RS w' B v l := h.keep hb.size (fun c hc => hb.block c (h.lo c hc).2) fun x hx => (h.rows x hx).below hb
theorem RS.form {w : World} {B : Nat} {v : Value} {l : List SD} (h : RS w B v l) : ∃ a cap, v = .slice a l.length cap ∧ (l = [] ∨ ∃ g, a = some ⟨g, 0, none⟩ ∧ B ≤ g ∧ g < w.heap.size ∧ ∀ i x, l[i]? = some x → w.cell? ⟨g, i, none⟩ = some (.slice (some ⟨x.1, 0, none⟩) 2 2)) := by
  rcases h.own.2 with ⟨hv, h0⟩ | ⟨g, cap, cur, hv, hB, hh, hle, _, hsz, htk⟩
  · have := List.eq_nil_of_length_eq_zero h0
    subst this
    exact ⟨none, 0, hv, .inl rfl⟩
  · refine ⟨some ⟨g, 0, none⟩, cap, hv, .inr ⟨g, rfl, hB, (h.lo g (by rw [hv]; rfl)).2, fun i x hx => ?_⟩⟩
    have hi := (List.getElem?_eq_some_iff.1 hx).1
    have hu : (l.map SD.v)[i]? = some (.slice (some ⟨x.1, 0, none⟩) 2 2) := by rw [List.getElem?_map, hx]; rfl
    rw [← htk, List.getElem?_take, if_pos (by omega)] at hu
    simp only [World.cell?, hh]
    simpa using hu
theorem RS.at {w : World} {B g n cap : Nat} {l : List SD} (h : RS w B (.slice (some ⟨g, 0, none⟩) n cap) l) {i : Nat} {x : SD} (hx : l[i]? = some x) : w.cell? ⟨g, i, none⟩ = some (.slice (some ⟨x.1, 0, none⟩) 2 2) := by
  obtain ⟨a, c, hv, hf⟩ := h.form
  simp only [Value.slice.injEq] at hv
  obtain ⟨rfl, _, _⟩ := hv
  rcases hf with rfl | ⟨g', e, _, _, hc⟩
  · simp at hx
  · cases e
    exact hc i x hx
theorem Tryd.infoS36 : (Tryd.prog.info? 36).map (fun i => (i.zero, i.size, i.bytes)) = some (some (.agg #[.slice none 0 0]), 1, 24) := by kernel_rfl
theorem appS {ops : Array Oper} {rest : List Oper} {o : Oper} {a : Act} {Q : Exit → Act → World → Prop} {w : World} (hgd : o.guard = none) (s x : Operand)
    (ho : o.op = .call { callee := .builtin .append, args := #[s, x], argTypes := #[25, 25] })
    (B : Nat) (v : Value) (l : List SD) (hs : a.eval s = v) (HO : Hid (RS w B v l)) (y : SD) (HY : Hid (S2 w B y.1 y.2)) (HYO : Hid (∀ g, v.ownBlock = some g → Off g y))
    (ad : Addr) (c : Nat) (hx : a.eval x = .slice (some ad) 1 c) (HN : Hid (∀ j u, ([y.v] : List Value)[j]? = some u → w.cell? (ad.add j) = some u)) (hle : l.length ≤ 1048576) (hB : B ≤ w.heap.size)
    (N : Nat) (hN : l.length + 1 = N)
    (h : ∀ g cap w', Hid (RS w' B (.slice (some ⟨g, 0, none⟩) N cap) (l ++ [y])) → Hid (Below B w w') → wpList Tryd.prog ops Q rest (a.put o.dst (.slice (some ⟨g, 0, none⟩) N cap)) w') :
    wpList Tryd.prog ops Q (o :: rest) a w := by
  obtain ⟨i0, hi0, hzz⟩ := Option.map_eq_some_iff.1 Tryd.infoS36
  simp only [Prod.mk.injEq] at hzz
  obtain ⟨hi2, hi1, hi3⟩ := hzz
  subst hN
  refine wpList_append_lies _ hgd s x 25 ho B 36 i0 (.agg #[.slice none 0 0]) 1 24 Tryd.underlying25 hi0 hi2 hi1 hi3 rfl (by omega) v l.length (l.map SD.v) hs HO.out.own ad 1 c [y.v] hx rfl HN.out (fun u hu => by simp only [List.mem_cons, List.not_mem_nil, or_false] at hu; rw [hu]; rfl) (by omega) (by unfold maxLen; omega) (by omega) hB _ rfl ?_
  intro g cap w' hown hgr hat hlt
  have hall : ∀ z ∈ l ++ [y], S2 w B z.1 z.2 ∧ ∀ g, v.ownBlock = some g → Off g z := fun z hz => by
    rcases List.mem_append.1 hz with hz | hz
    · exact ⟨HO.out.rows z hz, fun g hg => HO.out.off g hg z hz⟩
    · rw [List.mem_singleton.1 hz]
      exact ⟨HY.out, HYO.out⟩
  refine h g cap w' ⟨?_, fun g' hg' => ?_, fun z hz => ?_, fun g' hg' z hz => ?_⟩ ⟨hgr.os, hgr.tape, hgr.output, hgr.size, fun b hb => hgr.block b (by omega) (fun e => by have := (HO.out.lo b e.symm).1; omega)⟩
  · rw [List.map_append, List.length_append]
    exact hown
  · have : g = g' := by simpa [Value.ownBlock] using hg'
    subst this
    rcases hown.2 with ⟨hv, _⟩ | ⟨g0, c0, cur, hv, hb, _⟩
    · cases hv
    · cases hv; exact ⟨hb, hlt⟩
  · cases hv : v.ownBlock with
    | none => exact (hall z hz).1.below ⟨hgr.os, hgr.tape, hgr.output, hgr.size, fun b hb => hgr.block b hb (fun e => by rw [hv] at e; cases e)⟩
    | some g0 => exact (hall z hz).1.pastO ⟨hgr.os, hgr.tape, hgr.output, hgr.size, fun b hb hn => hgr.block b hb (fun e => by rw [hv] at e; cases e; exact hn rfl)⟩ ((hall z hz).2 g0 hv)
  · have : g = g' := by simpa [Value.ownBlock] using hg'
    subst this
    rcases hat with e | e
    · exact (hall z hz).2 g e
    · exact (hall z hz).1.off_new (by rw [e]; exact Nat.le_refl _)
/-- What stands in the middle of l8sols. -/
structure LM (w W : World) (g : Nat) (a : Option Addr) (len cap : Nat) (v : Value) (l : List SD) : Prop where
  p : Past g w W
  c : Cur W g a len cap
  r : RS W w.heap.size v l
theorem LM.past {w W W' : World} {g : Nat} {a : Option Addr} {len cap : Nat} {v : Value} {l : List SD} (h : LM w W g a len cap v l) (hp : Past g W W') (hc : Cur W' g a len cap) (hg : g < w.heap.size) : LM w W' g a len cap v l := ⟨h.p.trans hp, hc, h.r.past hp hg⟩
theorem LM.low {w W W' : World} {g : Nat} {a : Option Addr} {len cap : Nat} {v v' : Value} {l l' : List SD} (h : LM w W g a len cap v l) (hC : Cur w g a len cap) (hb : Below w.heap.size W W') (hr : RS W' w.heap.size v' l') : LM w W' g a len cap v' l' := by
  have hp : Past g w W' := ⟨hb.os.trans h.p.os, hb.tape.trans h.p.tape, hb.output.trans h.p.output, Nat.le_trans h.p.size hb.size, fun b hb' hn => (hb.block b hb').trans (h.p.block b hb' hn)⟩
  exact ⟨hp, hC.glue h.c hp (hb.block g hC.lt), hr⟩
theorem newS (W : World) (x : SD) : ∀ j u, ([x.v] : List Value)[j]? = some u → (W.alloc (.cells #[.slice (some ⟨x.1, 0, none⟩) 2 2] 36)).cell? ((⟨W.heap.size, 0, none⟩ : Addr).add j) = some u := by
  intro j u hu
  have h1 : (W.alloc (.cells #[.slice (some ⟨x.1, 0, none⟩) 2 2] 36)).heap[W.heap.size]? = some (.cells #[.slice (some ⟨x.1, 0, none⟩) 2 2] 36) := by
    show (W.heap.push _)[W.heap.size]? = _
    rw [Array.getElem?_push]
    simp
  exact World.news_of_block h1 j u hu
def SolsDrawn (g : Nat) (a : Option Addr) (len cap : Nat) (w : World) (e : Ending) (w' : World) : Prop := ∃ v l, e = .returned v ∧ LM w w' g a len cap v l ∧ l.length ≤ 16

set_option maxHeartbeats 4000000 in
theorem l8sols_two (g : Nat) (a : Option Addr) (len cap : Nat) (w : World) (hlen : len ≤ 9223372036854775807) (hC : Cur w g a len cap) :
    Calls Tryd.prog 13 #[.pointer (some ⟨g, 0, none⟩), .int .i64 2] w (SolsDrawn g a len cap w) := by
  have hgl := hC.lt
  have HC : Hid (Cur w g a len cap) := hC
  have HON : Hid (∀ W, Cur W g a len cap → Calls Tryd.prog 14 #[.pointer (some ⟨g, 0, none⟩), .int .i64 4] W fun e w' => ∃ p : Bool, e = .returned (.bool p) ∧ Past g W w' ∧ Cur w' g a len cap) := fun W h => l1Once_any g a len cap 4 W hlen h (by omega) (by omega)
  have HBL : Hid (∀ (n : Nat) W, Cur W g a len cap → 1 ≤ n → n ≤ 256 → Calls Tryd.prog 15 #[.pointer (some ⟨g, 0, none⟩), .int .i64 n] W (Drawn g a len cap W n)) := fun n W h h1 h2 => l1Below_any g a len cap n W hlen h h1 h2
  have HSO : Hid (∀ W, Cur W g a len cap → Calls Tryd.prog 24 #[.pointer (some ⟨g, 0, none⟩), .int .i64 2] W (SolDrawn g a len cap W)) := fun W h => l6sol_two g a len cap W hlen h
  have hB9 := HBL.out 9 w hC (by omega) (by omega)
  clear hC
  go_enter Tryd.func13, Tryd.ntmps13
  go_wp2_with fail
  refine hB9.mono ?_
  rintro e w1 ⟨kk, rfl, hkk, hp1, hc1⟩
  have HM0 : Hid (LM w w1 g a len cap (.slice none 0 0) []) := ⟨hp1, hc1, RS.nil _ _⟩
  clear hp1 hc1 hB9
  go_wp2_with fail
  go_loopw [5, 7] (fun v i wr => ∃ (k n : Nat) (l : List SD) (va : Option Addr) (vc : Nat), k ≤ kk ∧ i = .int .i64 k ∧ v = .slice va n vc ∧ Hid (n = l.length) ∧ Hid (LM w wr g a len cap (.slice va n vc) l) ∧ n ≤ 2 * k)
    (fun _ i _ => kk - (intOf i).toNat)
  case atStart => exact ⟨0, 0, [], none, 0, Nat.zero_le _, rfl, rfl, rfl, HM0, Nat.zero_le _⟩
  case round =>
    obtain ⟨k, n, l, va, vc, hk, rfl, rfl, HNL, HM, hll⟩ := hrel
    clear HM0
    by_cases hlk : k < kk
    · have hlkz : (k : Int) < (kk : Int) := by omega
      have hT := HSO.out _ HM.out.c
      have hl0 : l.length ≤ 18 := by have := HNL.out; omega
      obtain ⟨m, hm⟩ : ∃ m, l.length + 1 = m := ⟨_, rfl⟩
      have HMM : Hid (m = n + 1) := (show m = n + 1 by have := HNL.out; omega)
      have hmk : m ≤ 2 * k + 1 ∧ 1 ≤ m := by have := HMM.out; omega
      go_wp2_with fail
      refine hT.mono ?_
      rintro e w2 ⟨G, f, rfl, hS, hp2, hc2⟩
      have HM2 : Hid (LM w w2 g a len cap (.slice va n vc) l) := HM.out.past hp2 hc2 hgl
      have HA : Hid (∀ o, RS (w2.alloc o) w.heap.size (.slice va n vc) l) := fun o => HM2.out.r.below (bl_a o)
      have HY : Hid (∀ o, S2 (w2.alloc o) w.heap.size (G, f).1 (G, f).2) := fun o => (hS.base HM.out.p.size).below (bl_a o)
      have HYO : Hid (∀ g, (Value.slice va n vc).ownBlock = some g → Off g (G, f)) := fun g hg => hS.off_low (x := (G, f)) (HM.out.r.lo g hg).2
      have HNW : Hid (∀ j u, ([SD.v (G, f)] : List Value)[j]? = some u → (w2.alloc (.cells #[.slice (some ⟨G, 0, none⟩) 2 2] 36)).cell? ((⟨w2.heap.size, 0, none⟩ : Addr).add j) = some u) := newS w2 (G, f)
      have hB2 : ∀ o, w.heap.size ≤ (w2.alloc o).heap.size := fun o => Nat.le_trans HM2.out.p.size (bl_a (w := w2) o).size
      clear hT hS hp2 hc2 HM
      go_upto_region 7 with (refine appS rfl (.tmp 15) (.tmp 19) rfl w.heap.size (.slice va n vc) l rfl (HA.out _) (G, f) (HY.out _) HYO ⟨w2.heap.size, 0, none⟩ 1 rfl HNW (by omega) (hB2 _) m hm ?_; intro g3 c3 w3 HR3 HL3)
      have HM3 : Hid (LM w w3 g a len cap (.slice (some ⟨g3, 0, none⟩) m c3) (l ++ [(G, f)])) := HM2.out.low HC.out (((bl_a _).mono HM2.out.p.size).trans HL3.out) HR3.out
      have HN3 : Hid (m = (l ++ [(G, f)]).length) := (show m = (l ++ [(G, f)]).length by simp; omega)
      clear HA HY HYO HNW hB2 HR3 HL3 HM2
      generalize l ++ [(G, f)] = l3 at *
      go_wp2_with fail
      refine (HON.out _ HM3.out.c).mono ?_
      rintro e w4 ⟨b, rfl, hp4, hc4⟩
      have HM4 : Hid (LM w w4 g a len cap (.slice (some ⟨g3, 0, none⟩) m c3) l3) := HM3.out.past hp4 hc4 hgl
      clear hp4 hc4 HM3
      cases b
      case false =>
        go_wp2_with fail
        go_roundw
        case rel => exact ⟨k + 1, m, l3, some ⟨g3, 0, none⟩, c3, by omega, by go_num, rfl, HN3, HM4, by omega⟩
        case measure => simp [intOf]; omega
      have hBn := HBL.out m w4 HM4.out.c (by omega) (by omega)
      go_wp2_with fail
      refine hBn.mono ?_
      rintro e w5 ⟨x, rfl, hx, hp5, hc5⟩
      have HM5 : Hid (LM w w5 g a len cap (.slice (some ⟨g3, 0, none⟩) m c3) l3) := HM4.out.past hp5 hc5 hgl
      clear hp5 hc5 HM4 hBn
      obtain ⟨y, hy⟩ : ∃ y, l3[x]? = some y := ⟨_, List.getElem?_eq_getElem (by have := HN3.out; omega)⟩
      have hym : y ∈ l3 := List.mem_of_getElem? hy
      have HYY : Hid (l3[x]? = some y) := hy
      have lr : w5.rangeAt g3 x [.slice (some ⟨y.1, 0, none⟩) 2 2] := fun c u hu => by
        cases c with
        | zero => simp at hu; subst hu; exact HM5.out.r.at HYY.out
        | succ c => simp at hu
      have HA : Hid (∀ o, RS (w5.alloc o) w.heap.size (.slice (some ⟨g3, 0, none⟩) m c3) l3) := fun o => HM5.out.r.below (bl_a o)
      have HY : Hid (∀ o, S2 (w5.alloc o) w.heap.size y.1 y.2) := fun o => (HM5.out.r.rows y hym).below (bl_a o)
      have HYO : Hid (∀ g, (Value.slice (some ⟨g3, 0, none⟩) m c3).ownBlock = some g → Off g y) := fun g hg => HM5.out.r.off g hg y hym
      have HNW : Hid (∀ j u, ([SD.v y] : List Value)[j]? = some u → (w5.alloc (.cells #[.slice (some ⟨y.1, 0, none⟩) 2 2] 36)).cell? ((⟨w5.heap.size, 0, none⟩ : Addr).add j) = some u) := newS w5 y
      have hB5 : ∀ o, w.heap.size ≤ (w5.alloc o).heap.size := fun o => Nat.le_trans HM5.out.p.size (bl_a (w := w5) o).size
      have hxz : (x : Int) < (m : Int) := by omega
      have hl3 : l3.length ≤ 20 := by have := HN3.out; omega
      obtain ⟨m2, hm2⟩ : ∃ m2, l3.length + 1 = m2 := ⟨_, rfl⟩
      have hmk2 : m2 ≤ 2 * k + 2 := by have := HN3.out; omega
      clear hym hy hm HMM
      go_upto_region 5 with (first | (with_reducible refine wpr_at ?_; refine wpList_load_mid rfl 36 _ rfl _ _ rfl [.slice (some ⟨y.1, 0, none⟩) 2 2] _ lr Tryd.underlying36 rfl (by kernel_rfl) ?_; try simp only [Act.put, List.setIfInBounds_toArray, List.set_cons_zero, List.set_cons_succ]) | (refine appS rfl (.tmp 23) (.tmp 31) rfl w.heap.size (.slice (some ⟨g3, 0, none⟩) m c3) l3 rfl (HA.out _) y (HY.out _) HYO ⟨w5.heap.size, 0, none⟩ 1 rfl HNW (by omega) (hB5 _) m2 hm2 ?_; intro g6 c6 w6 HR6 HL6))
      have HM6 : Hid (LM w w6 g a len cap (.slice (some ⟨g6, 0, none⟩) m2 c6) (l3 ++ [y])) := HM5.out.low HC.out (((bl_a _).mono HM5.out.p.size).trans HL6.out) HR6.out
      have HN6 : Hid (m2 = (l3 ++ [y]).length) := (show m2 = (l3 ++ [y]).length by simp; omega)
      clear HA HY HYO HNW hB5 HR6 HL6 HM5 lr
      go_wp2_with fail
      go_roundw
      case rel => exact ⟨k + 1, m2, l3 ++ [y], some ⟨g6, 0, none⟩, c6, by omega, by go_num, rfl, HN6, HM6, by omega⟩
      case measure => simp [intOf]; omega
    · obtain rfl : k = kk := by omega
      go_wp2_with fail
      go_ret
      exact ⟨_, l, rfl, HM.out, by have := HNL.out; omega⟩
end Go.Proofs.YtganfiajhokkmaaDoor

/- TbV -/
namespace Go.Proofs.YtganfiajhokkmaaDoor
open Go.RowKit Go.Deep
set_option maxRecDepth 100000

def SD.so (x : SD) : SO := ⟨some ⟨x.1, 0, none⟩, 2, 2, x.2⟩
theorem two_get (x y : CB) (i c : Nat) (hi : i < 2) (u : Value) (hu : (if i = 0 then x else y).cells[c]? = some u) : (x.cells ++ y.cells)[i * 5 + c]? = some u := by
  have hx : x.cells.length = 5 := rfl
  rcases (by omega : i = 0 ∨ i = 1) with rfl | rfl
  · have hc := (List.getElem?_eq_some_iff.1 hu).1
    rw [if_pos rfl] at hu hc
    rw [List.getElem?_append_left (by omega)]
    simpa using hu
  · rw [List.getElem?_append_right (by omega)]
    simp only [hx]
    have e : 1 * 5 + c - 5 = c := by omega
    rw [e]
    exact hu
theorem S2.so {w : World} {B : Nat} {x : SD} (h : S2 w B x.1 x.2) : x.so.lies 0 w := by
  refine ⟨.inr ⟨x.1, 0, rfl, Nat.zero_le _, h.ob.1, fun i hi c u hu => ?_⟩, fun i hi => (h.tx i hi).base (Nat.zero_le _), by show 2 ≤ _; omega⟩
  have hi : i < 2 := hi
  have := two_get (x.2 0) (x.2 1) i c hi u (by
    rcases (by omega : i = 0 ∨ i = 1) with rfl | rfl
    · exact hu
    · exact hu)
  rw [Nat.zero_add]
  exact (h.ob.2 _ _ this).1
/-- The row i of those. -/
def rowAt (l : List SD) (i : Nat) : SO := (l[i]?.getD (0, fun _ => zCB)).so
theorem rowAt_some {l : List SD} {i : Nat} {x : SD} (h : l[i]? = some x) : rowAt l i = x.so := by
  unfold rowAt
  rw [h]
  rfl
theorem RS.table {w : World} {B n cap : Nat} {a : Option Addr} {l : List SD} (h : RS w B (.slice a n cap) l) : n = l.length ∧ KRow 0 w 1 a n (fun i => (rowAt l i).cells) ∧ ∀ i, i < n → (rowAt l i).lies 0 w := by
  obtain ⟨a', c', hv, hf⟩ := h.form
  simp only [Value.slice.injEq] at hv
  obtain ⟨rfl, rfl, rfl⟩ := hv
  refine ⟨rfl, ?_, fun i hi => ?_⟩
  · rcases hf with rfl | ⟨g, rfl, _, hg, hc⟩
    · exact .inl rfl
    · refine .inr ⟨g, 0, rfl, Nat.zero_le _, hg, fun i hi c u hu => ?_⟩
      have hx := List.getElem?_eq_getElem hi
      have hu : (rowAt l i).cells[c]? = some u := hu
      rw [rowAt_some hx] at hu
      cases c with
      | zero =>
        have e : u = .slice (some ⟨l[i].1, 0, none⟩) 2 2 := by
          have := hu
          simp only [SO.cells, SD.so] at this
          simpa using this.symm
        subst e
        have := hc i _ hx
        simpa using this
      | succ c => simp [SO.cells] at hu
  · have hx := List.getElem?_eq_getElem hi
    rw [rowAt_some hx]
    exact (h.rows _ (List.mem_of_getElem? hx)).so
/-- A term is put into the first cell of the solution in the block G. -/
def putT (G : Nat) (t : TB) (x : SD) : SD := if x.1 = G then (x.1, fun j => if j = 0 then ⟨(x.2 0).has, t⟩ else x.2 j) else x
theorem putT_fst (G : Nat) (t : TB) (x : SD) : (putT G t x).1 = x.1 := by
  unfold putT
  split <;> rfl
theorem S2.putT {w : World} {B G : Nat} {f : Nat → CB} {t : TB} (hG : S2 w B G f) (ht : BsF B w t.sl) (hf : t.t.fits) {x : SD} (h : S2 w B x.1 x.2) : S2 (w.setCells G 1 [.int .i64 t.t.k, .slice t.t.a t.t.len t.t.cap, .int .i64 t.t.n, .int .i64 t.t.s]) B (putT G t x).1 (putT G t x).2 := by
  have hkind : ∀ c, 1 ≤ c → c < 1 + 4 → ∃ u, ((f 0).cells ++ (f 1).cells)[c]? = some u ∧ ∀ z, u ≠ .int .u8 z := fun c _ h2 => two_kind _ _ c (by omega)
  have tx : ∀ y : SL, BsF B w y → BsF B (w.setCells G 1 [.int .i64 t.t.k, .slice t.t.a t.t.len t.t.cap, .int .i64 t.t.n, .int .i64 t.t.s]) y := fun y hy => ⟨Bs.sets _ _ hy.1 hG.ob hkind, hy.2⟩
  by_cases e : x.1 = G
  · have e1 : Go.Proofs.YtganfiajhokkmaaDoor.putT G t x = (x.1, fun j => if j = 0 then ⟨(x.2 0).has, t⟩ else x.2 j) := by unfold Go.Proofs.YtganfiajhokkmaaDoor.putT; rw [if_pos e]
    rw [e1]
    subst e
    refine ⟨h.lo, h.ob.sets [.int .i64 t.t.k, .slice t.t.a t.t.len t.t.cap, .int .i64 t.t.n, .int .i64 t.t.s] 1, fun j hj => ?_⟩
    show CB.lies B _ (if j = 0 then ⟨(x.2 0).has, t⟩ else x.2 j)
    split
    · exact ⟨tx _ ht, hf⟩
    · exact ⟨tx _ (h.tx j hj).1, (h.tx j hj).2⟩
  · have e1 : Go.Proofs.YtganfiajhokkmaaDoor.putT G t x = x := by unfold Go.Proofs.YtganfiajhokkmaaDoor.putT; rw [if_neg e]
    rw [e1]
    exact ⟨h.lo, h.ob.but (but_sets _ _ _ _) e, fun j hj => ⟨tx _ (h.tx j hj).1, (h.tx j hj).2⟩⟩
theorem RS.putT {w : World} {B G n cap : Nat} {a : Option Addr} {l : List SD} {f : Nat → CB} {t : TB} (h : RS w B (.slice a n cap) l) (hm : (G, f) ∈ l) (ht : BsF B w t.sl) (hf : t.t.fits) : ∀ x ∈ l.map (Go.Proofs.YtganfiajhokkmaaDoor.putT G t), S2 (w.setCells G 1 [.int .i64 t.t.k, .slice t.t.a t.t.len t.t.cap, .int .i64 t.t.n, .int .i64 t.t.s]) B x.1 x.2 := by
  intro x hx
  obtain ⟨y, hy, rfl⟩ := List.mem_map.1 hx
  exact (h.rows _ hm).putT ht hf (h.rows y hy)
end Go.Proofs.YtganfiajhokkmaaDoor
