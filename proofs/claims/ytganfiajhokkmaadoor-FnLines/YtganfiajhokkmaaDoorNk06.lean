/- Texts put together: TbW TbX TbB TreF -/
import Derived.Test.YtganfiajhokkmaaDoorNk05
import Derived.Lib.SlBytesConst
import Derived.Test.YtganfiajhokkmaaDoorNk02
import Derived.Test.YtganfiajhokkmaaDoorNk01
import Derived.Test.YtganfiajhokkmaaDoorNk03
/- TbW -/
namespace Go.Proofs.YtganfiajhokkmaaDoor
open Go.RowKit Go.Deep
set_option maxRecDepth 100000

def TabDrawn (w : World) (e : Ending) (w' : World) : Prop := ∃ t : TL, e = .returned (.agg #[.slice t.va t.vn t.vc, .slice t.ra t.rn t.rc]) ∧ t.lies 0 w' ∧ Below w.heap.size w w'
/-- Names that lie. -/
def VF (W : World) (va : Option Addr) (vn : Nat) (var : Nat → SL) : Prop := KRow 0 W 1 va vn (fun i => (var i).cells) ∧ ∀ i, i < vn → (var i).lies 0 W
theorem tab_end {w W : World} {B vn vc rn rc : Nat} {va ra : Option Addr} {var : Nat → SL} {l : List SD} (hb : Below w.heap.size w W) (hr : RS W B (.slice ra rn rc) l) (hB : w.heap.size < B ∧ l.length ≤ 16) (hV : (∀ W', Past w.heap.size W W' → VF W' va vn var) ∧ vn ≤ 2) :
    TabDrawn w (.returned (.agg #[.slice va vn vc, .slice ra rn rc])) (W.setCells w.heap.size 0 [.slice va vn vc, .slice ra rn rc]) := by
  have hp : Past w.heap.size W (W.setCells w.heap.size 0 [.slice va vn vc, .slice ra rn rc]) := ((Past.refl _ W).set 0 _).set 1 _
  have h2 := (hr.past hp hB.1).table
  have h3 := hV.1 _ hp
  exact ⟨⟨va, vc, vn, var, ra, rc, rn, rowAt l⟩, rfl, ⟨h3.1, h3.2, (show vn ≤ 1048576 by have := hV.2; omega), h2.2.1, h2.2.2, (show rn ≤ 1048576 by have := h2.1; omega)⟩, below_sets _ (Nat.le_refl _) _ _ _ hb⟩
def nm (p : Nat) (x : Int) : SL := ⟨some ⟨p, 0, none⟩, 1, 1, [x]⟩
theorem nm_lies {W : World} {p : Nat} {x : Int} (h : OB W p [.int .u8 x]) (h0 : 0 ≤ x) (h1 : x ≤ 255) : (nm p x).lies 0 W := by
  refine ⟨⟨rfl, by show 1 ≤ _; omega, fun i => ?_, .inr ⟨p, 0, rfl, h.1, fun i hi => ?_⟩⟩, .inr fun _ _ => Nat.zero_le _⟩
  · show 0 ≤ [x][i]?.getD 0 ∧ [x][i]?.getD 0 ≤ 255
    cases i with
    | zero => simp; omega
    | succ i => simp
  · have hi : i < 1 := hi
    have e : i = 0 := by omega
    subst e
    exact (h.2 0 _ rfl).1
theorem vf_two {W : World} {b3 p q : Nat} {x y : Int} (h3 : OB W b3 [.slice (some ⟨p, 0, none⟩) 1 1, .slice (some ⟨q, 0, none⟩) 1 1]) (hp : OB W p [.int .u8 x]) (hq : OB W q [.int .u8 y]) (hx : 0 ≤ x ∧ x ≤ 255) (hy : 0 ≤ y ∧ y ≤ 255) : VF W (some ⟨b3, 0, none⟩) 2 (fun i => if i = 0 then nm p x else nm q y) := by
  refine ⟨.inr ⟨b3, 0, rfl, Nat.zero_le _, h3.1, fun i hi c u hu => ?_⟩, fun i hi => ?_⟩
  · rcases (by omega : i = 0 ∨ i = 1) with rfl | rfl
    · cases c with
      | zero => cases hu; exact (h3.2 0 _ rfl).1
      | succ c => cases hu
    · cases c with
      | zero => cases hu; exact (h3.2 1 _ rfl).1
      | succ c => cases hu
  · show SL.lies 0 W (if i = 0 then nm p x else nm q y)
    split
    · exact nm_lies hp hx.1 hx.2
    · exact nm_lies hq hy.1 hy.2
theorem vf_one {W : World} {b3 p q : Nat} {y : Int} (h3 : OB W b3 [.slice (some ⟨p, 0, none⟩) 1 1, .slice (some ⟨q, 0, none⟩) 1 1]) (hq : OB W q [.int .u8 y]) (hy : 0 ≤ y ∧ y ≤ 255) : VF W (some ⟨b3, 1, none⟩) 1 (fun _ => nm q y) := by
  refine ⟨.inr ⟨b3, 1, rfl, Nat.zero_le _, h3.1, fun i hi c u hu => ?_⟩, fun i hi => nm_lies hq hy.1 hy.2⟩
  obtain rfl : i = 0 := by omega
  cases c with
  | zero => cases hu; exact (h3.2 1 _ rfl).1
  | succ c => cases hu
/-- What stands in the middle of DrawTableText: w4 is the world in which the rows were drawn. -/
structure TW (w w4 W : World) (gc : Nat) (a : Option Addr) (len cap t b1 b2 b3 : Nat) (ra : Option Addr) (rn rc : Nat) (l : List SD) : Prop where
  bl : Below w.heap.size w W
  lm : LM w4 W gc a len cap (.slice ra rn rc) l
  rz : OB W w.heap.size [.slice none 0 0, .slice none 0 0]
  tx : OB W t [.slice (some ⟨b3, 0, none⟩) 2 2, .slice ra rn rc]
  vx : OB W b3 [.slice (some ⟨b1, 0, none⟩) 1 1, .slice (some ⟨b2, 0, none⟩) 1 1]
  y1 : OB W b1 [.int .u8 120]
  y2 : OB W b2 [.int .u8 121]
structure TO (w w4 : World) (gc t b1 b2 b3 : Nat) : Prop where
  o1 : w.heap.size < gc
  o2 : gc < b1
  o3 : b1 < b2
  o4 : b2 < b3
  o5 : b3 < w4.heap.size
  o6 : w4.heap.size ≤ t
theorem TW.past {w w4 W W' : World} {gc : Nat} {a : Option Addr} {len cap t b1 b2 b3 : Nat} {ra : Option Addr} {rn rc : Nat} {l : List SD} (h : TW w w4 W gc a len cap t b1 b2 b3 ra rn rc l) (o : TO w w4 gc t b1 b2 b3) (hp : Past gc W W') (hc : Cur W' gc a len cap) : TW w w4 W' gc a len cap t b1 b2 b3 ra rn rc l := by
  obtain ⟨o1, o2, o3, o4, o5, o6⟩ := o
  exact ⟨h.bl.trans (hp.below (by omega) h.bl.size), h.lm.past hp hc (by omega), h.rz.past hp (by omega), h.tx.past hp (by omega), h.vx.past hp (by omega), h.y1.past hp (by omega), h.y2.past hp (by omega)⟩
theorem TW.below {w w4 W W' : World} {gc : Nat} {a : Option Addr} {len cap t b1 b2 b3 : Nat} {ra : Option Addr} {rn rc : Nat} {l : List SD} (h : TW w w4 W gc a len cap t b1 b2 b3 ra rn rc l) (o : TO w w4 gc t b1 b2 b3) (hb : Below W.heap.size W W') : TW w w4 W' gc a len cap t b1 b2 b3 ra rn rc l := h.past o (Past.of_below hb) (h.lm.c.below hb)
theorem TW.vars {w w4 W : World} {gc : Nat} {a : Option Addr} {len cap t b1 b2 b3 : Nat} {ra : Option Addr} {rn rc : Nat} {l : List SD} (h : TW w w4 W gc a len cap t b1 b2 b3 ra rn rc l) (o : TO w w4 gc t b1 b2 b3) : (∀ W', Past w.heap.size W W' → VF W' (some ⟨b3, 0, none⟩) 2 (fun i => if i = 0 then nm b1 120 else nm b2 121)) ∧ 2 ≤ 2 := by
  obtain ⟨o1, o2, o3, o4, o5, o6⟩ := o
  exact ⟨fun W' hp => vf_two (h.vx.past hp (by omega)) (h.y1.past hp (by omega)) (h.y2.past hp (by omega)) (by omega) (by omega), Nat.le_refl _⟩
end Go.Proofs.YtganfiajhokkmaaDoor

/- TbX -/
namespace Go.Proofs.YtganfiajhokkmaaDoor
open Go.RowKit Go.Deep
set_option maxRecDepth 100000

theorem frz (w : World) (x : Int) (t : TypeId) : (w.alloc (.cells #[.int .u8 x] t (1, 2))).frozen? ⟨w.heap.size, 0, none⟩ = false := by
  have h1 : (w.alloc (.cells #[.int .u8 x] t (1, 2))).heap[w.heap.size]? = some (.cells #[.int .u8 x] t (1, 2)) := by
    show (w.heap.push _)[w.heap.size]? = _
    rw [Array.getElem?_push]
    simp
  unfold World.frozen?
  rw [h1]
  rfl
theorem RS.putR {w : World} {B n cap : Nat} {a : Option Addr} {l : List SD} {z : SD} {t : TB} (h : RS w B (.slice a n cap) l) (hm : z ∈ l) (ht : BsF B w t.sl) (hf : t.t.fits) (hto : ∀ g, (Value.slice a n cap).ownBlock = some g → t.t.len = 0 ∨ ∀ p, t.t.a = some p → p.block ≠ g) : RS (w.setCells z.1 1 [.int .i64 t.t.k, .slice t.t.a t.t.len t.t.cap, .int .i64 t.t.n, .int .i64 t.t.s]) B (.slice a n cap) (l.map (Go.Proofs.YtganfiajhokkmaaDoor.putT z.1 t)) := by
  have e1 : (l.map (Go.Proofs.YtganfiajhokkmaaDoor.putT z.1 t)).map SD.v = l.map SD.v := by
    rw [List.map_map]
    refine List.map_congr_left fun x _ => ?_
    show SD.v (Go.Proofs.YtganfiajhokkmaaDoor.putT z.1 t x) = SD.v x
    unfold SD.v
    rw [putT_fst]
  have hb := but_sets z.1 [.int .i64 t.t.k, .slice t.t.a t.t.len t.t.cap, .int .i64 t.t.n, .int .i64 t.t.s] 1 w
  have hrows := RS.putT (f := z.2) h hm ht hf
  obtain ⟨⟨h1, h2⟩, hl, _, ho⟩ := h
  refine ⟨?_, fun c hc => ⟨(hl c hc).1, by rw [hb.size]; exact (hl c hc).2⟩, hrows, fun g hg x hx => ?_⟩
  · rw [e1, List.length_map]
    refine ⟨h1, ?_⟩
    rcases h2 with h2 | ⟨g', cap', cur, hv, hB, hh, r⟩
    · exact .inl h2
    · refine .inr ⟨g', cap', cur, hv, hB, ?_, r⟩
      rw [hb.block g' (Ne.symm (ho g' (by rw [hv]; rfl) _ hm).1)]
      exact hh
  · obtain ⟨y, hy, rfl⟩ := List.mem_map.1 hx
    have o := ho g hg y hy
    unfold Go.Proofs.YtganfiajhokkmaaDoor.putT
    split
    · refine ⟨o.1, fun j hj => ?_⟩
      by_cases e : j = 0
      · simp only [e, if_true]
        exact hto g hg
      · simp only [if_neg e]
        exact o.2 j hj
    · exact o
theorem OB.newM (w : World) (x : Int) (t : TypeId) : OB (w.alloc (.cells #[.int .u8 x] t (1, 2))) w.heap.size [.int .u8 x] := by
  refine ⟨by simp, fun c u hu => ?_⟩
  cases c with
  | zero => cases hu; exact ⟨(Box.new w #[.int .u8 x] t _).2 0 _ rfl, frz w x t⟩
  | succ c => cases hu
theorem conv_one (W : World) (H : Nat) (hH : H = W.heap.size) (x : Int) : (convert 22 22 (.slice (some ⟨H, 0, none⟩) 1 1)).run Tryd.prog (W.alloc (.cells #[.int .u8 x] 5)) = .ok (.slice (some ⟨H, 0, none⟩) 1 1) (W.alloc (.cells #[.int .u8 x] 5 (1, 2))) := by
  subst hH
  exact Lib.run_convert_bytes_const W 22 5 #[.int .u8 x] 1 1 Tryd.underlying22 Tryd.underlying5
set_option maxHeartbeats 8000000 in
theorem DrawTable_any (a : Option Addr) (len cap : Nat) (w : World) (hlen : len ≤ 9223372036854775807) (hC : Code w a len) :
    Calls Tryd.prog 5 #[.slice a len cap] w (TabDrawn w) := by
  have HCD : Hid (∀ o, Code (w.alloc o) a len) := fun o => by
    rcases hC with h | ⟨b, off, ha, hlt, hc⟩
    · exact .inl h
    · refine .inr ⟨b, off, ha, by simp; omega, fun i hi => ?_⟩
      rw [(bl_a (w := w) o).cell (p := ⟨b, off + i, none⟩) hlt]
      exact hc i hi
  have hN := l1New_any a len cap (w.alloc (.cells #[.slice none 0 0, .slice none 0 0] 27)) hlen (HCD.out _)
  have hsz : (w.alloc (.cells #[.slice none 0 0, .slice none 0 0] 27)).heap.size = w.heap.size + 1 := by simp
  rw [show CurRes (w.alloc (.cells #[.slice none 0 0, .slice none 0 0] 27)) a len cap = fun e w' => e = .returned (.pointer (some ⟨w.heap.size + 1, 0, none⟩)) ∧ Below (w.heap.size + 1) (w.alloc (.cells #[.slice none 0 0, .slice none 0 0] 27)) w' ∧ Cur w' (w.heap.size + 1) a len cap by funext e w'; unfold CurRes; rw [hsz]] at hN
  have HON : Hid (∀ (gc : Nat) W, Cur W gc a len cap → Calls Tryd.prog 14 #[.pointer (some ⟨gc, 0, none⟩), .int .i64 8] W fun e w' => ∃ p : Bool, e = .returned (.bool p) ∧ Past gc W w' ∧ Cur w' gc a len cap) := fun gc W h => l1Once_any gc a len cap 8 W hlen h (by omega) (by omega)
  have HBL : Hid (∀ (gc : Nat) W, Cur W gc a len cap → Calls Tryd.prog 15 #[.pointer (some ⟨gc, 0, none⟩), .int .i64 3] W (Drawn gc a len cap W 3)) := fun gc W h => l1Below_any gc a len cap 3 W hlen h (by omega) (by omega)
  have HSO : Hid (∀ (gc : Nat) W, Cur W gc a len cap → Calls Tryd.prog 13 #[.pointer (some ⟨gc, 0, none⟩), .int .i64 2] W (SolsDrawn gc a len cap W)) := fun gc W h => l8sols_two gc a len cap W hlen h
  have HBE : Hid (∀ (gc : Nat) W, Cur W gc a len cap → Calls Tryd.prog 16 #[.pointer (some ⟨gc, 0, none⟩)] W (BentDrawn gc a len cap W)) := fun gc W h => l1bent_any gc a len cap W hlen h
  clear hC
  go_enter Tryd.func5, Tryd.ntmps5
  go_wp2_with fail
  refine hN.mono ?_
  rintro e w1 ⟨rfl, hb1, hc1⟩
  have HB1 : Hid (Below w.heap.size w w1) := (bl_a _).trans (hb1.mono (by omega))
  have HR1 : Hid (OB w1 w.heap.size [.slice none 0 0, .slice none 0 0]) := (OB.new w #[.slice none 0 0, .slice none 0 0] 27).below (by rw [hsz]; exact hb1)
  have hg1 := hc1.lt
  have HY1 : Hid (OB (((w1.alloc (.cells #[.int .u8 120] 5 (1, 2))).alloc (.cells #[.int .u8 121] 5 (1, 2))).alloc (.cells #[.slice (some ⟨w1.heap.size, 0, none⟩) 1 1, .slice (some ⟨w1.heap.size + 1, 0, none⟩) 1 1] 22)) w1.heap.size [.int .u8 120]) := ((OB.newM w1 120 5).below (bl_a _)).below (bl_a _)
  have HY2 : Hid (OB (((w1.alloc (.cells #[.int .u8 120] 5 (1, 2))).alloc (.cells #[.int .u8 121] 5 (1, 2))).alloc (.cells #[.slice (some ⟨w1.heap.size, 0, none⟩) 1 1, .slice (some ⟨w1.heap.size + 1, 0, none⟩) 1 1] 22)) (w1.heap.size + 1) [.int .u8 121]) := by
    have h := (OB.newM (w1.alloc (.cells #[.int .u8 120] 5 (1, 2))) 121 5).below (bl_a (.cells #[.slice (some ⟨w1.heap.size, 0, none⟩) 1 1, .slice (some ⟨w1.heap.size + 1, 0, none⟩) 1 1] 22))
    have e : (w1.alloc (.cells #[.int .u8 120] 5 (1, 2))).heap.size = w1.heap.size + 1 := by simp
    rw [e] at h
    exact h
  have HY3 : Hid (OB (((w1.alloc (.cells #[.int .u8 120] 5 (1, 2))).alloc (.cells #[.int .u8 121] 5 (1, 2))).alloc (.cells #[.slice (some ⟨w1.heap.size, 0, none⟩) 1 1, .slice (some ⟨w1.heap.size + 1, 0, none⟩) 1 1] 22)) (w1.heap.size + 2) [.slice (some ⟨w1.heap.size, 0, none⟩) 1 1, .slice (some ⟨w1.heap.size + 1, 0, none⟩) 1 1]) := by
    have h := OB.new ((w1.alloc (.cells #[.int .u8 120] 5 (1, 2))).alloc (.cells #[.int .u8 121] 5 (1, 2))) #[.slice (some ⟨w1.heap.size, 0, none⟩) 1 1, .slice (some ⟨w1.heap.size + 1, 0, none⟩) 1 1] 22
    have e : ((w1.alloc (.cells #[.int .u8 120] 5 (1, 2))).alloc (.cells #[.int .u8 121] 5 (1, 2))).heap.size = w1.heap.size + 2 := by simp
    rw [e] at h
    exact h
  have HB4 : Hid (Below w1.heap.size w1 (((w1.alloc (.cells #[.int .u8 120] 5 (1, 2))).alloc (.cells #[.int .u8 121] 5 (1, 2))).alloc (.cells #[.slice (some ⟨w1.heap.size, 0, none⟩) 1 1, .slice (some ⟨w1.heap.size + 1, 0, none⟩) 1 1] 22))) := bl_alloc (bl_alloc (bl_a _) _) _
  have HZ4 : Hid ((((w1.alloc (.cells #[.int .u8 120] 5 (1, 2))).alloc (.cells #[.int .u8 121] 5 (1, 2))).alloc (.cells #[.slice (some ⟨w1.heap.size, 0, none⟩) 1 1, .slice (some ⟨w1.heap.size + 1, 0, none⟩) 1 1] 22)).heap.size = w1.heap.size + 3) := by show _ = _; simp
  have hS := HSO.out (w.heap.size + 1) (((w1.alloc (.cells #[.int .u8 120] 5 (1, 2))).alloc (.cells #[.int .u8 121] 5 (1, 2))).alloc (.cells #[.slice (some ⟨w1.heap.size, 0, none⟩) 1 1, .slice (some ⟨w1.heap.size + 1, 0, none⟩) 1 1] 22)) (hc1.below HB4.out)
  clear hN hb1 hc1 hsz
  have cv1 := conv_one w1 w1.heap.size rfl 120
  have cv2 := conv_one (w1.alloc (.cells #[.int .u8 120] 5 (1, 2))) (w1.heap.size + 1) (by simp) 121
  go_wp2_with fail
  refine hS.mono ?_
  rintro e w5 ⟨v, l, rfl, hlm, hl16⟩
  obtain ⟨ra, rc, rfl, _⟩ := hlm.r.form
  obtain ⟨rn, hrn⟩ : ∃ rn, rn = l.length := ⟨_, rfl⟩
  rw [← hrn] at hlm ⊢
  have HRN : Hid (rn = l.length) := hrn
  have HL16 : Hid (l.length ≤ 16) := hl16
  have hP5 : Past (w.heap.size + 1) w1 w5 := (Past.of_below HB4.out).trans hlm.p
  have hz5 : w1.heap.size + 3 ≤ w5.heap.size := by rw [← HZ4.out]; exact hlm.p.size
  have hb5 : Below w5.heap.size w5 ((w5.alloc (.cells #[.slice none 0 0, .slice none 0 0] 27)).setCells w5.heap.size 0 [.slice (some ⟨w1.heap.size + 2, 0, none⟩) 2 2, .slice ra rn rc]) := below_sets _ (Nat.le_refl _) _ _ _ (bl_a _)
  have HTW : Hid (TW w (((w1.alloc (.cells #[.int .u8 120] 5 (1, 2))).alloc (.cells #[.int .u8 121] 5 (1, 2))).alloc (.cells #[.slice (some ⟨w1.heap.size, 0, none⟩) 1 1, .slice (some ⟨w1.heap.size + 1, 0, none⟩) 1 1] 22)) ((w5.alloc (.cells #[.slice none 0 0, .slice none 0 0] 27)).setCells w5.heap.size 0 [.slice (some ⟨w1.heap.size + 2, 0, none⟩) 2 2, .slice ra rn rc]) (w.heap.size + 1) a len cap w5.heap.size w1.heap.size (w1.heap.size + 1) (w1.heap.size + 2) ra rn rc l) := by
    have hq := hlm.past (Past.of_below hb5) (hlm.c.below hb5) (by rw [HZ4.out]; omega)
    exact ⟨HB1.out.trans ((hP5.below (by omega) (by omega)).trans (hb5.mono (by omega))), hq, (HR1.out.past hP5 (by omega)).below hb5, (OB.new w5 #[.slice none 0 0, .slice none 0 0] 27).sets [.slice (some ⟨w1.heap.size + 2, 0, none⟩) 2 2, .slice ra rn rc] 0, (HY3.out.past hlm.p (by omega)).below hb5, (HY1.out.past hlm.p (by omega)).below hb5, (HY2.out.past hlm.p (by omega)).below hb5⟩
  have HTO : Hid (TO w (((w1.alloc (.cells #[.int .u8 120] 5 (1, 2))).alloc (.cells #[.int .u8 121] 5 (1, 2))).alloc (.cells #[.slice (some ⟨w1.heap.size, 0, none⟩) 1 1, .slice (some ⟨w1.heap.size + 1, 0, none⟩) 1 1] 22)) (w.heap.size + 1) w5.heap.size w1.heap.size (w1.heap.size + 1) (w1.heap.size + 2)) := ⟨by omega, by omega, by omega, by omega, by rw [HZ4.out]; omega, by rw [HZ4.out]; omega⟩
  have st : (w5.alloc (.cells #[.slice none 0 0, .slice none 0 0] 27)).there w5.heap.size 0 2 := (OB.new w5 #[.slice none 0 0, .slice none 0 0] 27).there 0 2 (by simp)
  have on : (#[.slice (some ⟨w1.heap.size + 2, 0, none⟩) 2 2, .slice ra rn rc] : Array Value).all (·.oneCell') = true := all_oneCell_toArray (cs := [.slice (some ⟨w1.heap.size + 2, 0, none⟩) 2 2, .slice ra rn rc]) (by simp [Value.oneCell'])
  have HOT : Hid ((∀ x ∈ l, Off w5.heap.size x) ∧ ∀ g, (Value.slice ra rn rc).ownBlock = some g → g < w5.heap.size) := ⟨fun x hx => (hlm.r.rows x hx).off_new (Nat.le_refl _), fun g hg => (hlm.r.lo g hg).2⟩
  have HB0 : Hid (w.heap.size < (((w1.alloc (.cells #[.int .u8 120] 5 (1, 2))).alloc (.cells #[.int .u8 121] 5 (1, 2))).alloc (.cells #[.slice (some ⟨w1.heap.size, 0, none⟩) 1 1, .slice (some ⟨w1.heap.size + 1, 0, none⟩) 1 1] 22)).heap.size ∧ l.length ≤ 16) := ⟨by rw [HZ4.out]; omega, hl16⟩
  clear cv1 cv2 hS hlm hl16 hrn hP5 hb5 HY1 HY2 HY3 HB4 HZ4 HR1 HB1
  go_upto_region 3 with (with_reducible refine wpr_at ?_; refine wpList_store_mid rfl 27 _ _ rfl _ _ _ rfl rfl st (by kernel_rfl) on ?_; try simp only [Act.put])
  clear st on
  generalize (((w1.alloc (.cells #[.int .u8 120] 5 (1, 2))).alloc (.cells #[.int .u8 121] 5 (1, 2))).alloc (.cells #[.slice (some ⟨w1.heap.size, 0, none⟩) 1 1, .slice (some ⟨w1.heap.size + 1, 0, none⟩) 1 1] 22)) = w4 at *
  generalize (w5.alloc (.cells #[.slice none 0 0, .slice none 0 0] 27)).setCells w5.heap.size 0 [.slice (some ⟨w1.heap.size + 2, 0, none⟩) 2 2, .slice ra rn rc] = W5 at *
  generalize w5.heap.size = t at *
  generalize w1.heap.size + 2 = b3 at *
  generalize w1.heap.size + 1 = b2 at *
  generalize w1.heap.size = b1 at *
  go_wp2_with fail
  refine (HON.out _ _ HTW.out.lm.c).mono ?_
  rintro e w6 ⟨b, rfl, hp6, hc6⟩
  have HT6 : Hid (TW w w4 w6 (w.heap.size + 1) a len cap t b1 b2 b3 ra rn rc l) := HTW.out.past HTO.out hp6 hc6
  clear hp6 hc6 HTW HON HSO HCD
  cases b
  case false =>
    have st : w6.there w.heap.size 0 2 := (HT6.out.rz).there 0 2 (by simp)
    have on : (#[.slice (some ⟨b3, 0, none⟩) 2 2, .slice ra rn rc] : Array Value).all (·.oneCell') = true := all_oneCell_toArray (cs := [.slice (some ⟨b3, 0, none⟩) 2 2, .slice ra rn rc]) (by simp [Value.oneCell'])
    have lr : w6.rangeAt t 0 [.slice (some ⟨b3, 0, none⟩) 2 2, .slice ra rn rc] := (HT6.out.tx).box.range 0 _ rfl
    go_wp2_with (first | (with_reducible refine wpr_at ?_; refine wpList_load_mid rfl 27 _ rfl _ _ rfl [.slice (some ⟨b3, 0, none⟩) 2 2, .slice ra rn rc] _ lr Tryd.underlying27 rfl (by kernel_rfl) ?_; try simp only [Act.put, List.setIfInBounds_toArray, List.set_cons_zero, List.set_cons_succ]) | (with_reducible refine wpr_at ?_; refine wpList_store_mid rfl 27 _ _ rfl _ _ _ rfl rfl st (by kernel_rfl) on ?_; try simp only [Act.put]))
    have hrd : (w6.setCells w.heap.size 0 [.slice (some ⟨b3, 0, none⟩) 2 2, .slice ra rn rc]).rangeAt w.heap.size 0 [.slice (some ⟨b3, 0, none⟩) 2 2, .slice ra rn rc] := World.rangeAt_setCells_same _ _ _ _ st
    refine bodyPost_ret (v := .agg #[.slice (some ⟨b3, 0, none⟩) 2 2, .slice ra rn rc]) ?hr1 rfl ?hp1
    case hr1 => exact results_cell rfl rfl (run_loadVar_mid (P := Tryd.prog) _ w.heap.size 0 27 [.slice (some ⟨b3, 0, none⟩) 2 2, .slice ra rn rc] _ hrd Tryd.underlying27 rfl (by kernel_rfl))
    exact tab_end HT6.out.bl HT6.out.lm.r HB0.out (HT6.out.vars HTO.out)

  go_wp2_with fail
  refine (HBL.out _ _ HT6.out.lm.c).mono ?_
  rintro e w7 ⟨x, rfl, hx, hp7, hc7⟩
  have HT7 : Hid (TW w w4 w7 (w.heap.size + 1) a len cap t b1 b2 b3 ra rn rc l) := HT6.out.past HTO.out hp7 hc7
  clear hp7 hc7 HT6 HBL
  have ct0 := (HT7.out.tx.2 0 _ rfl).1
  have ct1 := (HT7.out.tx.2 1 _ rfl).1
  have ft0 := (HT7.out.tx.2 0 _ rfl).2
  rcases (by omega : x = 0 ∨ x = 1 ∨ x = 2) with rfl | rfl | rfl
  · obtain ⟨o1, o2, o3, o4, o5, o6⟩ := HTO.out
    have HT8 : Hid (TW w w4 (w7.alloc (.cells #[.int .u8 120] 5 (1, 2))) (w.heap.size + 1) a len cap t b1 b2 b3 ra rn rc l) := HT7.out.below HTO.out (bl_a _)
    have hbt : But b3 (w7.alloc (.cells #[.int .u8 120] 5 (1, 2))) ((w7.alloc (.cells #[.int .u8 120] 5 (1, 2))).setCell ⟨b3, 1, none⟩ (.slice (some ⟨w7.heap.size, 0, none⟩) 1 1)) := (But.refl _ _).set 1 _
    have hpt : Past b3 (w7.alloc (.cells #[.int .u8 120] 5 (1, 2))) ((w7.alloc (.cells #[.int .u8 120] 5 (1, 2))).setCell ⟨b3, 1, none⟩ (.slice (some ⟨w7.heap.size, 0, none⟩) 1 1)) := (Past.refl _ _).set 1 _
    have HN8 : Hid (OB ((w7.alloc (.cells #[.int .u8 120] 5 (1, 2))).setCell ⟨b3, 1, none⟩ (.slice (some ⟨w7.heap.size, 0, none⟩) 1 1)) w7.heap.size [.int .u8 120]) := (OB.newM w7 120 5).but hbt (by have := HT7.out.vx.1; omega)
    have HV8 : Hid (OB ((w7.alloc (.cells #[.int .u8 120] 5 (1, 2))).setCell ⟨b3, 1, none⟩ (.slice (some ⟨w7.heap.size, 0, none⟩) 1 1)) b3 [.slice (some ⟨b1, 0, none⟩) 1 1, .slice (some ⟨w7.heap.size, 0, none⟩) 1 1]) := HT8.out.vx.set 1 _
    have HY8 : Hid (OB ((w7.alloc (.cells #[.int .u8 120] 5 (1, 2))).setCell ⟨b3, 1, none⟩ (.slice (some ⟨w7.heap.size, 0, none⟩) 1 1)) b1 [.int .u8 120]) := HT8.out.y1.but hbt (by omega)
    have HX8 : Hid (OB ((w7.alloc (.cells #[.int .u8 120] 5 (1, 2))).setCell ⟨b3, 1, none⟩ (.slice (some ⟨w7.heap.size, 0, none⟩) 1 1)) t [.slice (some ⟨b3, 0, none⟩) 2 2, .slice ra rn rc]) := HT8.out.tx.but hbt (by omega)
    have HZ8 : Hid (OB ((w7.alloc (.cells #[.int .u8 120] 5 (1, 2))).setCell ⟨b3, 1, none⟩ (.slice (some ⟨w7.heap.size, 0, none⟩) 1 1)) w.heap.size [.slice none 0 0, .slice none 0 0]) := HT8.out.rz.but hbt (by omega)
    have HR8 : Hid (RS ((w7.alloc (.cells #[.int .u8 120] 5 (1, 2))).setCell ⟨b3, 1, none⟩ (.slice (some ⟨w7.heap.size, 0, none⟩) 1 1)) w4.heap.size (.slice ra rn rc) l) := HT8.out.lm.r.past hpt o5
    have HL8 : Hid (Below w.heap.size w ((w7.alloc (.cells #[.int .u8 120] 5 (1, 2))).setCell ⟨b3, 1, none⟩ (.slice (some ⟨w7.heap.size, 0, none⟩) 1 1))) := HT8.out.bl.setCell (p := ⟨b3, 1, none⟩) (by show w.heap.size ≤ b3; omega) _
    have hn7 : w.heap.size < w7.heap.size := HT7.out.rz.1
    have cv3 := conv_one w7 w7.heap.size rfl 120
    have cb1 := (HT8.out.vx.2 1 _ rfl).1
    have fb1 := (HT8.out.vx.2 1 _ rfl).2
    clear hbt hpt HT8
    go_upto_region 11 with fail
    clear cv3 cb1 fb1 ct0 ct1 ft0
    generalize (w7.alloc (.cells #[.int .u8 120] 5 (1, 2))).setCell ⟨b3, 1, none⟩ (.slice (some ⟨w7.heap.size, 0, none⟩) 1 1) = W8 at *
    generalize w7.heap.size = nb at *
    have hV8 : (∀ W', Past w.heap.size W8 W' → VF W' (some ⟨b3, 0, none⟩) 2 (fun i => if i = 0 then nm b1 120 else nm nb 120)) ∧ 2 ≤ 2 := ⟨fun W' hp => vf_two (HV8.out.past hp (by omega)) (HY8.out.past hp (by omega)) (HN8.out.past hp (by omega)) (by omega) (by omega), Nat.le_refl _⟩
    have st : W8.there w.heap.size 0 2 := (HZ8.out).there 0 2 (by simp)
    have on : (#[.slice (some ⟨b3, 0, none⟩) 2 2, .slice ra rn rc] : Array Value).all (·.oneCell') = true := all_oneCell_toArray (cs := [.slice (some ⟨b3, 0, none⟩) 2 2, .slice ra rn rc]) (by simp [Value.oneCell'])
    have lr : W8.rangeAt t 0 [.slice (some ⟨b3, 0, none⟩) 2 2, .slice ra rn rc] := (HX8.out).box.range 0 _ rfl
    go_wp2_with (first | (with_reducible refine wpr_at ?_; refine wpList_load_mid rfl 27 _ rfl _ _ rfl [.slice (some ⟨b3, 0, none⟩) 2 2, .slice ra rn rc] _ lr Tryd.underlying27 rfl (by kernel_rfl) ?_; try simp only [Act.put, List.setIfInBounds_toArray, List.set_cons_zero, List.set_cons_succ]) | (with_reducible refine wpr_at ?_; refine wpList_store_mid rfl 27 _ _ rfl _ _ _ rfl rfl st (by kernel_rfl) on ?_; try simp only [Act.put]))
    have hrd : (W8.setCells w.heap.size 0 [.slice (some ⟨b3, 0, none⟩) 2 2, .slice ra rn rc]).rangeAt w.heap.size 0 [.slice (some ⟨b3, 0, none⟩) 2 2, .slice ra rn rc] := World.rangeAt_setCells_same _ _ _ _ st
    refine bodyPost_ret (v := .agg #[.slice (some ⟨b3, 0, none⟩) 2 2, .slice ra rn rc]) ?hr2 rfl ?hp2
    case hr2 => exact results_cell rfl rfl (run_loadVar_mid (P := Tryd.prog) _ w.heap.size 0 27 [.slice (some ⟨b3, 0, none⟩) 2 2, .slice ra rn rc] _ hrd Tryd.underlying27 rfl (by kernel_rfl))
    exact tab_end HL8.out HR8.out HB0.out hV8
  · obtain ⟨o1, o2, o3, o4, o5, o6⟩ := HTO.out
    have hbt : But t w7 (w7.setCell ⟨t, 0, none⟩ (.slice (some ⟨b3, 1, none⟩) 1 1)) := (But.refl _ _).set 0 _
    have hpt : Past t w7 (w7.setCell ⟨t, 0, none⟩ (.slice (some ⟨b3, 1, none⟩) 1 1)) := (Past.refl _ _).set 0 _
    have HV8 : Hid (OB (w7.setCell ⟨t, 0, none⟩ (.slice (some ⟨b3, 1, none⟩) 1 1)) b3 [.slice (some ⟨b1, 0, none⟩) 1 1, .slice (some ⟨b2, 0, none⟩) 1 1]) := HT7.out.vx.but hbt (by omega)
    have HY8 : Hid (OB (w7.setCell ⟨t, 0, none⟩ (.slice (some ⟨b3, 1, none⟩) 1 1)) b2 [.int .u8 121]) := HT7.out.y2.but hbt (by omega)
    have HX8 : Hid (OB (w7.setCell ⟨t, 0, none⟩ (.slice (some ⟨b3, 1, none⟩) 1 1)) t [.slice (some ⟨b3, 1, none⟩) 1 1, .slice ra rn rc]) := HT7.out.tx.set 0 _
    have HZ8 : Hid (OB (w7.setCell ⟨t, 0, none⟩ (.slice (some ⟨b3, 1, none⟩) 1 1)) w.heap.size [.slice none 0 0, .slice none 0 0]) := HT7.out.rz.but hbt (by omega)
    have HR8 : Hid (RS (w7.setCell ⟨t, 0, none⟩ (.slice (some ⟨b3, 1, none⟩) 1 1)) w4.heap.size (.slice ra rn rc) l) := HT7.out.lm.r.keep hpt.size (fun g hg => hbt.block g (by have := HOT.out.2 g hg; omega)) fun x hx => (HT7.out.lm.r.rows x hx).pastO hpt (HOT.out.1 x hx)
    have HL8 : Hid (Below w.heap.size w (w7.setCell ⟨t, 0, none⟩ (.slice (some ⟨b3, 1, none⟩) 1 1))) := HT7.out.bl.setCell (p := ⟨t, 0, none⟩) (by show w.heap.size ≤ t; omega) _
    clear hbt hpt
    go_upto_region 11 with fail
    clear ct0 ct1 ft0
    generalize w7.setCell ⟨t, 0, none⟩ (.slice (some ⟨b3, 1, none⟩) 1 1) = W8 at *
    have hV8 : (∀ W', Past w.heap.size W8 W' → VF W' (some ⟨b3, 1, none⟩) 1 (fun _ => nm b2 121)) ∧ 1 ≤ 2 := ⟨fun W' hp => vf_one (HV8.out.past hp (by omega)) (HY8.out.past hp (by omega)) (by omega), by omega⟩
    have st : W8.there w.heap.size 0 2 := (HZ8.out).there 0 2 (by simp)
    have on : (#[.slice (some ⟨b3, 1, none⟩) 1 1, .slice ra rn rc] : Array Value).all (·.oneCell') = true := all_oneCell_toArray (cs := [.slice (some ⟨b3, 1, none⟩) 1 1, .slice ra rn rc]) (by simp [Value.oneCell'])
    have lr : W8.rangeAt t 0 [.slice (some ⟨b3, 1, none⟩) 1 1, .slice ra rn rc] := (HX8.out).box.range 0 _ rfl
    go_wp2_with (first | (with_reducible refine wpr_at ?_; refine wpList_load_mid rfl 27 _ rfl _ _ rfl [.slice (some ⟨b3, 1, none⟩) 1 1, .slice ra rn rc] _ lr Tryd.underlying27 rfl (by kernel_rfl) ?_; try simp only [Act.put, List.setIfInBounds_toArray, List.set_cons_zero, List.set_cons_succ]) | (with_reducible refine wpr_at ?_; refine wpList_store_mid rfl 27 _ _ rfl _ _ _ rfl rfl st (by kernel_rfl) on ?_; try simp only [Act.put]))
    have hrd : (W8.setCells w.heap.size 0 [.slice (some ⟨b3, 1, none⟩) 1 1, .slice ra rn rc]).rangeAt w.heap.size 0 [.slice (some ⟨b3, 1, none⟩) 1 1, .slice ra rn rc] := World.rangeAt_setCells_same _ _ _ _ st
    refine bodyPost_ret (v := .agg #[.slice (some ⟨b3, 1, none⟩) 1 1, .slice ra rn rc]) ?hr3 rfl ?hp3
    case hr3 => exact results_cell rfl rfl (run_loadVar_mid (P := Tryd.prog) _ w.heap.size 0 27 [.slice (some ⟨b3, 1, none⟩) 1 1, .slice ra rn rc] _ hrd Tryd.underlying27 rfl (by kernel_rfl))
    exact tab_end HL8.out HR8.out HB0.out hV8
  · by_cases h0 : rn = 0
    · subst h0
      go_upto_region 11 with fail
      clear ct0 ct1 ft0
      have st : w7.there w.heap.size 0 2 := (HT7.out.rz).there 0 2 (by simp)
      have on : (#[.slice (some ⟨b3, 0, none⟩) 2 2, .slice ra 0 rc] : Array Value).all (·.oneCell') = true := all_oneCell_toArray (cs := [.slice (some ⟨b3, 0, none⟩) 2 2, .slice ra 0 rc]) (by simp [Value.oneCell'])
      have lr : w7.rangeAt t 0 [.slice (some ⟨b3, 0, none⟩) 2 2, .slice ra 0 rc] := (HT7.out.tx).box.range 0 _ rfl
      go_wp2_with (first | (with_reducible refine wpr_at ?_; refine wpList_load_mid rfl 27 _ rfl _ _ rfl [.slice (some ⟨b3, 0, none⟩) 2 2, .slice ra 0 rc] _ lr Tryd.underlying27 rfl (by kernel_rfl) ?_; try simp only [Act.put, List.setIfInBounds_toArray, List.set_cons_zero, List.set_cons_succ]) | (with_reducible refine wpr_at ?_; refine wpList_store_mid rfl 27 _ _ rfl _ _ _ rfl rfl st (by kernel_rfl) on ?_; try simp only [Act.put]))
      have hrd : (w7.setCells w.heap.size 0 [.slice (some ⟨b3, 0, none⟩) 2 2, .slice ra 0 rc]).rangeAt w.heap.size 0 [.slice (some ⟨b3, 0, none⟩) 2 2, .slice ra 0 rc] := World.rangeAt_setCells_same _ _ _ _ st
      refine bodyPost_ret (v := .agg #[.slice (some ⟨b3, 0, none⟩) 2 2, .slice ra 0 rc]) ?hr4 rfl ?hp4
      case hr4 => exact results_cell rfl rfl (run_loadVar_mid (P := Tryd.prog) _ w.heap.size 0 27 [.slice (some ⟨b3, 0, none⟩) 2 2, .slice ra 0 rc] _ hrd Tryd.underlying27 rfl (by kernel_rfl))
      exact tab_end HT7.out.bl HT7.out.lm.r HB0.out (HT7.out.vars HTO.out)
    obtain ⟨o1, o2, o3, o4, o5, o6⟩ := HTO.out
    have hrn0 : (0 : Int) < (rn : Int) := by omega
    obtain ⟨y0, hy0⟩ : ∃ y, l[0]? = some y := ⟨_, List.getElem?_eq_getElem (by have := HRN.out; omega)⟩
    have HYM : Hid (y0 ∈ l) := List.mem_of_getElem? hy0
    have HY0 : Hid (l[0]? = some y0) := hy0
    clear hy0
    obtain ⟨g3, hg3⟩ : ∃ g3, ra = some ⟨g3, 0, none⟩ := by
      obtain ⟨a', c', hv, hf⟩ := HT7.out.lm.r.form
      simp only [Value.slice.injEq] at hv
      obtain ⟨rfl, _, _⟩ := hv
      rcases hf with rfl | ⟨g, e, _⟩
      · exact absurd HRN.out h0
      · exact ⟨g, e⟩
    subst hg3
    have cg := HT7.out.lm.r.at HY0.out
    have HMD : Hid (TW w w4 w7.drew (w.heap.size + 1) a len cap t b1 b2 b3 (some ⟨g3, 0, none⟩) rn rc l) := HT7.out.below HTO.out (Below.drew (Below.refl _ _))
    have hT2 := HBE.out _ _ HMD.out.lm.c
    have hq2 : w7.drew.cell? ⟨t, 1, none⟩ = some (.slice (some ⟨g3, 0, none⟩) rn rc) ∧ w7.drew.cell? ⟨g3, 0, none⟩ = some (.slice (some ⟨y0.1, 0, none⟩) 2 2) := ⟨(HMD.out.tx.2 1 _ rfl).1, HMD.out.lm.r.at HY0.out⟩
    go_wp2_with fail
    clear ct0 ct1 ft0 cg
    refine wp_region_held_drew (S := fun w' => w'.cell? ⟨t, 1, none⟩ = some (.slice (some ⟨g3, 0, none⟩) rn rc) ∧ w'.cell? ⟨g3, 0, none⟩ = some (.slice (some ⟨y0.1, 0, none⟩) 2 2)) (by kernel_rfl) ?_ (fun hHeld => ?_)
    · exact hq2
    refine takeq (i := 0) 32 (v := ?v1) rfl rfl (by kernel_rfl) (by kernel_rfl) (by kernel_rfl) (fun _ _ _ h => h) (Or.inl ⟨by rfl, ?y1⟩) hHeld ?r1
    case y1 => (intro w' hSw; skip; go_simp; (try with_reducible rfl))
    try simp only [Act.put, List.setIfInBounds_toArray, List.set_cons_zero, List.set_cons_succ]
    refine takeq (i := 1) 33 (v := ?v2) rfl rfl (by kernel_rfl) (by kernel_rfl) (by kernel_rfl) (fun _ _ _ h => h) (Or.inl ⟨by rfl, ?y2⟩) hHeld ?r2
    case y2 => (intro w' hSw; obtain ⟨q1, q2⟩ := hSw; go_simp; (try with_reducible rfl))
    try simp only [Act.put, List.setIfInBounds_toArray, List.set_cons_zero, List.set_cons_succ]
    refine takeq (i := 2) 34 (v := ?v3) rfl rfl (by kernel_rfl) (by kernel_rfl) (by kernel_rfl) (fun _ _ _ h => h) (Or.inl ⟨by rfl, ?y3⟩) hHeld ?r3
    case y3 => (intro w' hSw; skip; go_simp; (try with_reducible rfl))
    try simp only [Act.put, List.setIfInBounds_toArray, List.set_cons_zero, List.set_cons_succ]
    refine takeq (i := 3) 35 (v := ?v4) rfl rfl (by kernel_rfl) (by kernel_rfl) (by kernel_rfl) (fun _ _ _ h => h) (Or.inl ⟨by rfl, ?y4⟩) hHeld ?r4
    case y4 => (intro w' hSw; skip; go_simp; (try with_reducible rfl))
    try simp only [Act.put, List.setIfInBounds_toArray, List.set_cons_zero, List.set_cons_succ]
    refine takeq (i := 4) 36 (v := ?v5) rfl rfl (by kernel_rfl) (by kernel_rfl) (by kernel_rfl) (fun _ _ _ h => h) (Or.inl ⟨by rfl, ?y5⟩) hHeld ?r5
    case y5 => (intro w' hSw; obtain ⟨q1, q2⟩ := hSw; go_simp; (try with_reducible rfl))
    try simp only [Act.put, List.setIfInBounds_toArray, List.set_cons_zero, List.set_cons_succ]
    refine takeq (i := 5) 37 (v := ?v6) rfl rfl (by kernel_rfl) (by kernel_rfl) (by kernel_rfl) (fun _ _ _ h => h) (Or.inl ⟨by rfl, ?y6⟩) hHeld ?r6
    case y6 => (intro w' hSw; skip; go_simp; (try with_reducible rfl))
    try simp only [Act.put, List.setIfInBounds_toArray, List.set_cons_zero, List.set_cons_succ]
    refine wpAnyH_ready (rs := [6]) (by kernel_rfl) (by simp) ?_
    refine AllReadyH.cons rfl (fun K hK => ?_) AllReadyH.nil
    go_simp
    refine hT2.mono ?_
    rintro e w9 ⟨⟨tk, tn, ts, ta, tl, tc, bs, rfl, hn, hs, hl, hT⟩, hp9, hc9⟩
    have HT9 : Hid (TW w w4 w9 (w.heap.size + 1) a len cap t b1 b2 b3 (some ⟨g3, 0, none⟩) rn rc l) := HMD.out.past HTO.out hp9 hc9
    have hbase : w4.heap.size ≤ w7.drew.heap.size := by have := HT7.out.lm.p.size; simpa using this
    have hto : ∀ B', B' ≤ w7.drew.heap.size → tl = 0 ∨ ∀ p, ta = some p → B' ≤ p.block := fun B' hB' => hT.2.imp id fun ⟨g', ha, hg', _⟩ p hp => by
      have e : some p = some ⟨g', 0, none⟩ := hp.symm.trans ha
      cases e
      exact Nat.le_trans hB' hg'
    have hBs : BsF w4.heap.size w9 (⟨⟨tk, ta, tl, tc, tn, ts⟩, bs⟩ : TB).sl := ⟨hT.1, hto _ hbase⟩
    have HR9 : Hid (RS (w9.setCells y0.1 1 [.int .i64 tk, .slice ta tl tc, .int .i64 tn, .int .i64 ts]) w4.heap.size (.slice (some ⟨g3, 0, none⟩) rn rc) (l.map (putT y0.1 (⟨⟨tk, ta, tl, tc, tn, ts⟩, bs⟩ : TB)))) := HT9.out.lm.r.putR (t := (⟨⟨tk, ta, tl, tc, tn, ts⟩, bs⟩ : TB)) HYM.out hBs ⟨hn.1, hn.2, hs.1, hs.2⟩ fun g hg => (hto w7.drew.heap.size (Nat.le_refl _)).imp id fun h p hp => by
      have h1 := h p hp
      have h2 := (HMD.out.lm.r.lo g hg).2
      omega
    have hG0 := (HT9.out.lm.r.rows _ HYM.out).lo
    have hGt : y0.1 ≠ t := (HOT.out.1 _ HYM.out).1
    have hbt := but_sets y0.1 [.int .i64 tk, .slice ta tl tc, .int .i64 tn, .int .i64 ts] 1 w9
    have HX9 : Hid (OB (w9.setCells y0.1 1 [.int .i64 tk, .slice ta tl tc, .int .i64 tn, .int .i64 ts]) t [.slice (some ⟨b3, 0, none⟩) 2 2, .slice (some ⟨g3, 0, none⟩) rn rc]) := HT9.out.tx.but hbt (Ne.symm hGt)
    have HZ9 : Hid (OB (w9.setCells y0.1 1 [.int .i64 tk, .slice ta tl tc, .int .i64 tn, .int .i64 ts]) w.heap.size [.slice none 0 0, .slice none 0 0]) := HT9.out.rz.but hbt (by omega)
    have HV9 : Hid (OB (w9.setCells y0.1 1 [.int .i64 tk, .slice ta tl tc, .int .i64 tn, .int .i64 ts]) b3 [.slice (some ⟨b1, 0, none⟩) 1 1, .slice (some ⟨b2, 0, none⟩) 1 1]) := HT9.out.vx.but hbt (by omega)
    have HY9 : Hid (OB (w9.setCells y0.1 1 [.int .i64 tk, .slice ta tl tc, .int .i64 tn, .int .i64 ts]) b1 [.int .u8 120]) := HT9.out.y1.but hbt (by omega)
    have HYY9 : Hid (OB (w9.setCells y0.1 1 [.int .i64 tk, .slice ta tl tc, .int .i64 tn, .int .i64 ts]) b2 [.int .u8 121]) := HT9.out.y2.but hbt (by omega)
    have HL9 : Hid (Below w.heap.size w (w9.setCells y0.1 1 [.int .i64 tk, .slice ta tl tc, .int .i64 tn, .int .i64 ts])) := below_sets _ (by omega) _ _ _ HT9.out.bl
    have HB9 : Hid (w.heap.size < w4.heap.size ∧ (l.map (putT y0.1 (⟨⟨tk, ta, tl, tc, tn, ts⟩, bs⟩ : TB))).length ≤ 16) := ⟨HB0.out.1, by rw [List.length_map]; exact HB0.out.2⟩
    have st : w9.there y0.1 1 4 := (HT9.out.lm.r.rows _ HYM.out).ob.there 1 4 (by show 1 + 4 ≤ 10; omega)
    have on : (#[.int .i64 tk, .slice ta tl tc, .int .i64 tn, .int .i64 ts] : Array Value).all (·.oneCell') = true := all_oneCell_toArray (cs := [.int .i64 tk, .slice ta tl tc, .int .i64 tn, .int .i64 ts]) (by simp [Value.oneCell'])
    have hq9 : w9.cell? ⟨t, 1, none⟩ = some (.slice (some ⟨g3, 0, none⟩) rn rc) ∧ w9.cell? ⟨g3, 0, none⟩ = some (.slice (some ⟨y0.1, 0, none⟩) 2 2) := ⟨(HT9.out.tx.2 1 _ rfl).1, HT9.out.lm.r.at HY0.out⟩
    have HQ9 : Hid ((w9.setCells y0.1 1 [.int .i64 tk, .slice ta tl tc, .int .i64 tn, .int .i64 ts]).cell? ⟨t, 1, none⟩ = some (.slice (some ⟨g3, 0, none⟩) rn rc) ∧ (w9.setCells y0.1 1 [.int .i64 tk, .slice ta tl tc, .int .i64 tn, .int .i64 ts]).cell? ⟨g3, 0, none⟩ = some (.slice (some ⟨y0.1, 0, none⟩) 2 2)) := ⟨(HX9.out.2 1 _ rfl).1, (hbt.cell (p := ⟨g3, 0, none⟩) (Ne.symm (HT9.out.lm.r.off g3 rfl _ HYM.out).1)).trans hq9.2⟩
    clear hT2 hT hp9 hc9 hto hBs hbt hq2
    go_wp2_with fail
    refine hK.out _ _ ?_ (fun hHeld => ?_)
    · exact hq9
    clear hK K
    try simp only [Act.put, List.setIfInBounds_toArray, List.set_cons_zero, List.set_cons_succ]
    refine takeq (i := 7) 39 (v := ?v7) rfl rfl (by kernel_rfl) (by kernel_rfl) (by kernel_rfl) (fun _ _ _ h => h) (Or.inl ⟨by rfl, ?y7⟩) hHeld ?r7
    case y7 => (intro w' hSw; skip; go_simp; (try with_reducible rfl))
    try simp only [Act.put, List.setIfInBounds_toArray, List.set_cons_zero, List.set_cons_succ]
    refine takeq (i := 8) 40 (v := ?v8) rfl rfl (by kernel_rfl) (by kernel_rfl) (by kernel_rfl) (fun _ _ _ h => h) (Or.inl ⟨by rfl, ?y8⟩) hHeld ?r8
    case y8 => (intro w' hSw; skip; go_simp; (try with_reducible rfl))
    try simp only [Act.put, List.setIfInBounds_toArray, List.set_cons_zero, List.set_cons_succ]
    refine wpAnyH_ready (rs := [9]) (by kernel_rfl) (by simp) ?_
    refine AllReadyH.cons rfl (fun K hK => ?_) AllReadyH.nil
    refine step_store_five rfl 39 _ _ rfl y0.1 1 #[.int .i64 tk, .slice ta tl tc, .int .i64 tn, .int .i64 ts] rfl rfl st (by kernel_rfl) on ?_
    refine hK.out _ _ ?_ (fun hHeld => ?_)
    · exact HQ9.out
    clear hK K
    try simp only [Act.put, List.setIfInBounds_toArray]
    refine wpAnyH_done (by kernel_rfl) ?_ _
    clear hHeld hq9 st on HQ9
    generalize w9.setCells y0.1 1 [.int .i64 tk, .slice ta tl tc, .int .i64 tn, .int .i64 ts] = W8 at *
    go_upto_region 11 with fail
    have hV8 : (∀ W', Past w.heap.size W8 W' → VF W' (some ⟨b3, 0, none⟩) 2 (fun i => if i = 0 then nm b1 120 else nm b2 121)) ∧ 2 ≤ 2 := ⟨fun W' hp => vf_two (HV9.out.past hp (by omega)) (HY9.out.past hp (by omega)) (HYY9.out.past hp (by omega)) (by omega) (by omega), Nat.le_refl _⟩
    have st : W8.there w.heap.size 0 2 := (HZ9.out).there 0 2 (by simp)
    have on : (#[.slice (some ⟨b3, 0, none⟩) 2 2, .slice (some ⟨g3, 0, none⟩) rn rc] : Array Value).all (·.oneCell') = true := all_oneCell_toArray (cs := [.slice (some ⟨b3, 0, none⟩) 2 2, .slice (some ⟨g3, 0, none⟩) rn rc]) (by simp [Value.oneCell'])
    have lr : W8.rangeAt t 0 [.slice (some ⟨b3, 0, none⟩) 2 2, .slice (some ⟨g3, 0, none⟩) rn rc] := (HX9.out).box.range 0 _ rfl
    go_wp2_with (first | (with_reducible refine wpr_at ?_; refine wpList_load_mid rfl 27 _ rfl _ _ rfl [.slice (some ⟨b3, 0, none⟩) 2 2, .slice (some ⟨g3, 0, none⟩) rn rc] _ lr Tryd.underlying27 rfl (by kernel_rfl) ?_; try simp only [Act.put]) | (with_reducible refine wpr_at ?_; refine wpList_store_mid rfl 27 _ _ rfl _ _ _ rfl rfl st (by kernel_rfl) on ?_; try simp only [Act.put]))
    have hrd : (W8.setCells w.heap.size 0 [.slice (some ⟨b3, 0, none⟩) 2 2, .slice (some ⟨g3, 0, none⟩) rn rc]).rangeAt w.heap.size 0 [.slice (some ⟨b3, 0, none⟩) 2 2, .slice (some ⟨g3, 0, none⟩) rn rc] := World.rangeAt_setCells_same _ _ _ _ st
    refine bodyPost_ret (v := .agg #[.slice (some ⟨b3, 0, none⟩) 2 2, .slice (some ⟨g3, 0, none⟩) rn rc]) ?hr5 rfl ?hp5
    case hr5 => exact results_cell rfl rfl (run_loadVar_mid (P := Tryd.prog) _ w.heap.size 0 27 [.slice (some ⟨b3, 0, none⟩) 2 2, .slice (some ⟨g3, 0, none⟩) rn rc] _ hrd Tryd.underlying27 rfl (by kernel_rfl))
    exact tab_end HL9.out HR9.out HB9.out hV8
end Go.Proofs.YtganfiajhokkmaaDoor

/- TbB -/
namespace Go.Proofs.YtganfiajhokkmaaDoor
open Go.RowKit Go.Deep
set_option maxRecDepth 100000

/-- A text that may be written, in a block from B on. -/
def TxW (B : Nat) (w : World) (x : SL) : Prop := x.len = 0 ∨ ∃ g, x.a = some ⟨g, 0, none⟩ ∧ B ≤ g ∧ g < w.heap.size ∧ ∀ i, i < x.len → w.frozen? ⟨g, i, none⟩ = false
theorem TxW.upper {B : Nat} {w w' : World} {x : SL} (h : TxW B w x) (hu : Upper B w w') : TxW B w' x := by
  rcases h with h | ⟨g, ha, hB, hlt, hf⟩
  · exact .inl h
  · exact .inr ⟨g, ha, hB, Nat.lt_of_lt_of_le hlt hu.size, fun i hi => (World.frozen?_of_block (w := w) (a := ⟨g, i, none⟩) (hu.block g hB hlt)).trans (hf i hi)⟩
theorem TxW.base {B B' : Nat} {w : World} {x : SL} (h : TxW B w x) (hB : B' ≤ B) : TxW B' w x := by
  rcases h with h | ⟨g, ha, hb, r⟩
  · exact .inl h
  · exact .inr ⟨g, ha, Nat.le_trans hB hb, r⟩
/-- A row of m cells that may be written. -/
def FrW (B : Nat) (w : World) (g m : Nat) : Prop := m = 0 ∨ B ≤ g ∧ g < w.heap.size ∧ ∀ j, j < m → w.frozen? ⟨g, j, none⟩ = false
theorem FrW.upper {B : Nat} {w w' : World} {g m : Nat} (h : FrW B w g m) (hu : Upper B w w') : FrW B w' g m := by
  rcases h with h | ⟨hB, hlt, hf⟩
  · exact .inl h
  · exact .inr ⟨hB, Nat.lt_of_lt_of_le hlt hu.size, fun j hj => (World.frozen?_of_block (w := w) (a := ⟨g, j, none⟩) (hu.block g hB hlt)).trans (hf j hj)⟩
theorem FrW.base {B B' : Nat} {w : World} {g m : Nat} (h : FrW B w g m) (hB : B' ≤ B) : FrW B' w g m := by
  rcases h with h | ⟨hb, r⟩
  · exact .inl h
  · exact .inr ⟨Nat.le_trans hB hb, r⟩
def SL.own (B : Nat) (w : World) (x : SL) : Prop := BsF B w x ∧ TxW B w x
def CB.own (B : Nat) (w : World) (x : CB) : Prop := x.lies B w ∧ TxW B w x.t.sl
def SO.own (B : Nat) (w : World) (x : SO) : Prop := x.lies B w ∧ (∀ i, i < x.n → TxW B w (x.cel i).t.sl) ∧ ∃ g, x.a = some ⟨g, 0, none⟩ ∧ FrW B w g (x.n * 5)
def TL.own (B : Nat) (w : World) (x : TL) : Prop := x.lies B w ∧ (∀ i, i < x.vn → (x.var i).own B w) ∧ (∀ i, i < x.rn → (x.row i).own B w) ∧ (∃ g, x.va = some ⟨g, 0, none⟩) ∧ ∃ g, x.ra = some ⟨g, 0, none⟩
theorem SL.own.upper {B : Nat} {w w' : World} {x : SL} (h : x.own B w) (hu : Upper B w w') : x.own B w' := ⟨h.1.upper hu, h.2.upper hu⟩
theorem SL.own.base {B B' : Nat} {w : World} {x : SL} (h : x.own B w) (hB : B' ≤ B) : x.own B' w := ⟨h.1.base hB, h.2.base hB⟩
theorem CB.own.upper {B : Nat} {w w' : World} {x : CB} (h : x.own B w) (hu : Upper B w w') : x.own B w' := ⟨h.1.upper hu, h.2.upper hu⟩
theorem CB.own.base {B B' : Nat} {w : World} {x : CB} (h : x.own B w) (hB : B' ≤ B) : x.own B' w := ⟨h.1.base hB, h.2.base hB⟩
theorem SO.own.upper {B : Nat} {w w' : World} {x : SO} (h : x.own B w) (hu : Upper B w w') : x.own B w' := ⟨h.1.upper hu, fun i hi => (h.2.1 i hi).upper hu, h.2.2.imp fun _ hg => ⟨hg.1, hg.2.upper hu⟩⟩
theorem SO.own.base {B B' : Nat} {w : World} {x : SO} (h : x.own B w) (hB : B' ≤ B) : x.own B' w := ⟨h.1.base hB, fun i hi => (h.2.1 i hi).base hB, h.2.2.imp fun _ hg => ⟨hg.1, hg.2.base hB⟩⟩
end Go.Proofs.YtganfiajhokkmaaDoor

/- TreF -/
namespace Go.Proofs.YtganfiajhokkmaaDoor
open Go.RowKit Go.Deep
set_option maxRecDepth 100000

/-- A yes or no. -/
def Tells (P : Prop) (w : World) (e : Ending) (w' : World) : Prop := ∃ q : Bool, e = .returned (.bool q) ∧ (q = true ↔ P) ∧ Below w.heap.size w w'
theorem Tells.of {P : Prop} {w w' : World} {b : Bool} (h : b = true ↔ P) (hb : Below w.heap.size w w') : Tells P w (.returned (.bool b)) w' := ⟨b, rfl, h, hb⟩
theorem Tells.no {P : Prop} {w w' : World} (h : ¬ P) (hb : Below w.heap.size w w') : Tells P w (.returned (.bool false)) w' := ⟨false, rfl, ⟨fun e => (by cases e), fun hp => absurd hp h⟩, hb⟩
theorem Tells.yes {P : Prop} {w w' : World} (h : P) (hb : Below w.heap.size w w') : Tells P w (.returned (.bool true)) w' := ⟨true, rfl, ⟨fun _ => h, fun _ => rfl⟩, hb⟩

/-- What is zero. -/
def zeroT (x : TD) : Prop := x.k = 0 ∧ x.bs = [] ∧ x.n = 0 ∧ x.s = 0
def zeroE (e : ET) : Prop := e.d.k = 0 ∧ e.d.op = 0 ∧ e.d.v.b = [] ∧ zeroT e.d.t.td ∧ e.d.n = 0
theorem nil_len {b : List Int} {n : Nat} (h : b.length = n) : b = [] ↔ n = 0 := by
  rw [← h]
  exact List.length_eq_zero_iff.symm
theorem name_pos {b : List Int} (h : nameOk b = true) : b ≠ [] := by
  rintro rfl
  simp [nameOk] at h
end Go.Proofs.YtganfiajhokkmaaDoor
