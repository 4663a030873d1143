import Derived.Test.YtoloadogihbdeaaGreatMk08
import Derived.Lib.SliceRun
namespace Go.Proofs.YtoloadogihbdeaaGreat
open Go.RowKit Go.Deep
set_option maxHeartbeats 40000000
set_option maxRecDepth 100000
variable {ops : Array Oper} {e : ET} {Q : Exit → Act → World → Prop} {rest : List Oper} {B B' cap hi i j lo m n sz : Nat} {o : Oper} {a : Option Addr} {ty : TypeId} {v : Value} {w w' wr : World}
structure Cp (lo hi : Nat) (L : List Nat) : Prop where
 nd : L.Nodup
 i : ∀ b ∈ L, lo ≤ b ∧ b < hi
theorem Cp.nil (lo hi : Nat) : Cp lo hi [] := ⟨List.nodup_nil, fun b h => by cases h⟩
theorem Cp.mono {lo' hi' : Nat} {L : List Nat} (h : Cp lo hi L) (h1 : lo' ≤ lo) (h2 : hi ≤ hi') : Cp lo' hi' L := ⟨h.nd, fun b hb => ⟨Nat.le_trans h1 (h.i b hb).1, Nat.lt_of_lt_of_le (h.i b hb).2 h2⟩⟩
theorem Cp.app {A L : List Nat} (h : Cp lo m A) (k : Cp m hi L) (h1 : lo ≤ m) (h2 : m ≤ hi) : Cp lo hi (A ++ L) := by
 refine ⟨List.nodup_append.2 ⟨h.nd, k.nd, fun a ha b hb e => ?_⟩, fun b hb => ?_⟩
 · have := (h.i a ha).2
   have := (k.i b hb).1;omega
 rcases List.mem_append.1 hb with hb | hb
 · have := h.i b hb
   omega
 have := k.i b hb;omega
def SL.fp (x : SL) : List Nat := if x.len = 0 then [] else [blk x.a]
def IB.fp (x : IB) : List Nat := x.v.fp ++ x.t.sl.fp
def PB.fp (x : PB) : List Nat := x.s.fp ++ x.p.fp ++ x.o.fp
def TB.fp (x : TB) : List Nat := x.sl.fp
theorem Tz.own {len : Nat} {bs : List Int} (h : Tz w' w.heap.size a len cap bs) : (SL.mk a len cap bs).own w.heap.size w' ∧ Cp w.heap.size w'.heap.size (SL.mk a len cap bs).fp := by
 obtain ⟨hb, hz⟩ := h;by_cases h0 : len = 0
 · refine ⟨⟨⟨hb, .inl h0⟩, .inl h0⟩, ?_⟩
   unfold SL.fp;rw [if_pos h0];exact Cp.nil _ _
 rcases hz with ⟨_, h, _⟩ | ⟨g, rfl, hB, hg, hl, hc⟩
 · exact absurd h h0
 refine ⟨⟨⟨hb, .inr fun p hp => by cases hp; exact hB⟩, .inr ⟨g, rfl, hB, hg, fun i hi => (hc i (Nat.lt_of_lt_of_le hi hl)).2⟩⟩, ?_⟩
 unfold SL.fp;rw [if_neg h0];exact ⟨List.nodup_cons.2 ⟨by simp, List.nodup_nil⟩, fun b hb => by rw [List.mem_singleton] at hb; rw [hb]; exact ⟨hB, hg⟩⟩
theorem clone_own (x : SL) (w : World) (hx : BsF 0 w x) :
 Calls Tryz.prog 92 #[.slice x.a x.len x.cap] w fun e w' => ∃ y : SL, e = .returned (.slice y.a y.len y.cap) ∧ y.own w.heap.size w' ∧ Cp w.heap.size w'.heap.size y.fp ∧ y.b = x.b ∧ Bl w w' := by
 have hq := fun (w : World) (a : Option _) (n : Nat) (c : Nat) (n' : Nat) (c' : Nat) => Lib.run_eql_slice_nil w _ _ a n c n' c' Tryz.underlying23;have hl := hx.1.2.1;cases ha : x.a with
 | none =>
  have h0 : x.len = 0 := by
   rcases hx.1.2.2.2 with h | ⟨b, off, e, _⟩
   · exact h
   rw [ha] at e; cases e
  have hb := iH (List.eq_nil_of_length_eq_zero (by rw [hx.1.1, h0]));clear hx ha h0 hl;go_in;go_wp2;go_ret;refine ⟨⟨none, 0, 0, []⟩, rfl, ⟨⟨⟨rfl, nZ, fun i => ?_, .inl rfl⟩, .inl rfl⟩, .inl rfl⟩, Cp.nil _ _, hb.o.symm, Below.refl _ _⟩;show 0 ≤ ([] : List Int)[i]?.getD 0 ∧ ([] : List Int)[i]?.getD 0 ≤ 255;simp
 | some ad =>
  have HBX := iH (BsF.upper hx (uB (bl_a (.cells #[] 5))));have HBS := iH (show Bs _ _ _ _ by have h := HBX.o.1; rwa [ha] at h);have HTX := iH (Tz.new0v w);have HSX : Hd (Src Tryz.prog 1 23 (.slice (some ad) x.len x.cap) x.len (x.b.map (Value.int .u8)) (w.alloc (.cells #[] 5))) := src_bs HBS.o;have HYX : Hd (Byt ([] ++ x.b)) := Byt.of HBS.o.2.2.1;have hBX : w.heap.size ≤ (w.alloc (.cells #[] 5)).heap.size := by simp
  clear hx ha;go_in;go_wp2_with (refine list_app8z rfl (.tmp 5) (.tmp 6) 23 rfl w.heap.size 0 0 (some ⟨w.heap.size, 0, none⟩) [] rfl HTX (.slice (some ad) x.len x.cap) x.len x.b rfl (fun h => by cases h) HSX HYX x.len (Nat.zero_add _) x.b (List.nil_append _) (by omega) hBX ?_; intro g4 c4 w4 HT4 HD4)
  go_ret;have h := HT4.o.own (w := w);exact ⟨⟨some ⟨g4, 0, none⟩, x.len, c4, x.b⟩, rfl, h.1, h.2, rfl, (bl_a (w := w) (.cells #[] 5)).trans HD4.o⟩
theorem termCopied (t : TB) (w : World) (h : BsF 0 w t.sl) (hf : t.t.fits) : Calls Tryz.prog 130 #[.agg #[.int .i64 t.t.k, .slice t.t.a t.t.len t.t.cap, .int .i64 t.t.n, .int .i64 t.t.s]] w fun e w' => ∃ y : TB, e = .returned (.agg #[.int .i64 y.t.k, .slice y.t.a y.t.len y.t.cap, .int .i64 y.t.n, .int .i64 y.t.s]) ∧ y.own w.heap.size w' ∧ Cp w.heap.size w'.heap.size y.fp ∧ t.td = y.td ∧ Bl w w' := by
 have HX := iH ((Box.new w #[.int .i64 t.t.k, .slice t.t.a t.t.len t.t.cap, .int .i64 t.t.n, .int .i64 t.t.s] 35 (0, 0)).below (bl_a (.cells #[.int .i64 0, .slice none 0 0, .int .i64 0, .int .i64 0] 35)));have HO := iH (show OB _ _ _ by have h := OB.new (w.alloc (.cells #[.int .i64 t.t.k, .slice t.t.a t.t.len t.t.cap, .int .i64 t.t.n, .int .i64 t.t.s] 35)) #[.int .i64 0, .slice none 0 0, .int .i64 0, .int .i64 0] 35; simpa using h);have HB : Hd (Bl w ((w.alloc (.cells #[.int .i64 t.t.k, .slice t.t.a t.t.len t.t.cap, .int .i64 t.t.n, .int .i64 t.t.s] 35)).alloc (.cells #[.int .i64 0, .slice none 0 0, .int .i64 0, .int .i64 0] 35))) := bl_alloc (bl_a _) _;have HC0 := iH (fun W (hb : Bl w W) => clone_own t.sl W (h.upper (uB hb)));have HF := iH hf;clear h hf;go_in;go_upto_region 1 with fail
 generalize ((w.alloc _).alloc _) = W1 at *;have HG := iH HO.o.1;go_wp2_with fail
 refine wqd (fun w' => Bl w w' ∧ Box w' w.heap.size [.int .i64 t.t.k, .slice t.t.a t.t.len t.t.cap, .int .i64 t.t.n, .int .i64 t.t.s]) ?_ fun hHeld => ?_
 · exact ⟨Below.drew HB.o, HX.o.below bdr⟩
 refine tqB 0 3 ?_;refine tqB 1 4 (v := .int .i64 t.t.k) (hy := by intro w' hSw; have c0 := hSw.2.2 0 _ rfl; go_simp; (try with_reducible rfl)) ?_;refine tqB 2 5 ?_;refine tqB 3 6 (v := .slice t.t.a t.t.len t.t.cap) (hy := by intro w' hSw; have c0 := hSw.2.2 1 _ rfl; go_simp; (try with_reducible rfl)) ?_;refine tqB 5 8 ?_;refine tqB 6 9 (v := .int .i64 t.t.n) (hy := by intro w' hSw; have c0 := hSw.2.2 2 _ rfl; go_simp; (try with_reducible rfl)) ?_;refine tqB 7 10 ?_;refine tqB 8 11 (v := .int .i64 t.t.s) (hy := by intro w' hSw; have c0 := hSw.2.2 3 _ rfl; go_simp; (try with_reducible rfl)) ?_;refine rqA 4 fun K hK => ?_;go_simp;refine (HC0.o _ hHeld.1).mono ?_;rintro r w2 ⟨y1, rfl, hy, hc, he, hb2⟩;replace HB := iH (bl_trans (Below.drew HB.o) hb2);replace HX := iH ((HX.o.below bdr).below hb2);replace HO := iH ((HO.o.below bdr).below hb2);replace HZ := iH (show W1.heap.size ≤ _ from hb2.size);have HC : Hd (Cp W1.heap.size w2.heap.size (y1.fp)) := hc;have HY1 : Hd (y1.own W1.heap.size w2) := hy;have HE1 := iH he;clear hy hc he hb2 hHeld;go_wp2_with fail
 refine rhK hK ⟨HB.o, HX.o⟩ fun hHeld => ?_;clear hK K;refine tqB 9 12 (v := .agg #[.int .i64 t.t.k, .slice y1.a y1.len y1.cap, .int .i64 t.t.n, .int .i64 t.t.s]) ?_;have st := HO.o.there 0 4 (by simp);have on := all_oneCell_toArray (cs := [.int .i64 t.t.k, .slice y1.a y1.len y1.cap, .int .i64 t.t.n, .int .i64 t.t.s]) (by simp [Value.oneCell']);have hrd : (w2.setCells (w.heap.size + 1) 0 [.int .i64 t.t.k, .slice y1.a y1.len y1.cap, .int .i64 t.t.n, .int .i64 t.t.s]).rangeAt (w.heap.size + 1) 0 [.int .i64 t.t.k, .slice y1.a y1.len y1.cap, .int .i64 t.t.n, .int .i64 t.t.s] := World.rangeAt_setCells_same _ _ _ _ st;have hbf := iH (below_sets (w0 := w) (w.heap.size + 1) (by omega) [.int .i64 t.t.k, .slice y1.a y1.len y1.cap, .int .i64 t.t.n, .int .i64 t.t.s] 0 w2 HB.o);have hxf := iH (HX.o.upper (but_sets (w.heap.size + 1) [.int .i64 t.t.k, .slice y1.a y1.len y1.cap, .int .i64 t.t.n, .int .i64 t.t.s] 0 w2) (by omega));have hsf := iH ((but_sets (w.heap.size + 1) [.int .i64 t.t.k, .slice y1.a y1.len y1.cap, .int .i64 t.t.n, .int .i64 t.t.s] 0 w2).size);have HY1f := iH ((HY1.o.upper ((upper_sets (w.heap.size + 1) [.int .i64 t.t.k, .slice y1.a y1.len y1.cap, .int .i64 t.t.n, .int .i64 t.t.s] 0 w2).mono HG.o)).base (by have := HG.o; omega : w.heap.size ≤ W1.heap.size));refine rqA 10 fun K hK => ?_;refine step_storeV 35 (w.heap.size + 1) 0 #[.int .i64 t.t.k, .slice y1.a y1.len y1.cap, .int .i64 t.t.n, .int .i64 t.t.s] st on ?_;refine hK.out _ _ ?_ fun hHeld => ?_
 · exact ⟨hbf.o, hxf.o⟩
 clear hK K st on hHeld;try simp only [Act.put]
 generalize w2.setCells _ _ _ = W5 at *;refine wpAnyH_done (by kernel_rfl) ?_ _;go_wp2;try simp only [Exit.inBlock, Exit.then]
 refine bodyPost_ret (v := .agg #[.int .i64 t.t.k, .slice y1.a y1.len y1.cap, .int .i64 t.t.n, .int .i64 t.t.s]) ?hr rfl ?hp
 case hr => exact results_cell rfl rfl (run_loadVar_mid (P := Tryz.prog) _ (w.heap.size + 1) 0 35 [.int .i64 t.t.k, .slice y1.a y1.len y1.cap, .int .i64 t.t.n, .int .i64 t.t.s] _ hrd Tryz.underlying35 rfl (by kernel_rfl))
 have HCf : Cp w.heap.size W5.heap.size (y1.fp) := HC.o.mono (by have := HG.o; omega) (by rw [hsf.o]; exact nR);refine ⟨⟨⟨t.t.k, y1.a, y1.len, y1.cap, t.t.n, t.t.s⟩, y1.b⟩, rfl, ⟨⟨HY1f.o.1, HF.o⟩, HY1f.o.2⟩, HCf, ?_, hbf.o⟩;show (⟨t.t.k, t.b, t.t.n, t.t.s⟩ : TD) = ⟨t.t.k, y1.b, t.t.n, t.t.s⟩;rw [show y1.b = t.b from HE1.o]
theorem itemCopied (x : IB) (w : World) (h : x.lies 0 w) : Calls Tryz.prog 129 #[.agg x.ar] w fun e w' => ∃ y : IB, e = .returned (.agg y.ar) ∧ y.own w.heap.size w' ∧ Cp w.heap.size w'.heap.size y.fp ∧ x.same y ∧ Bl w w' := by
 have HX := iH ((Box.new w x.ar 37 (0, 0)).below (bl_a (.cells #[.slice none 0 0, .int .i64 0, .slice none 0 0, .int .i64 0, .int .i64 0] 37)));have HO := iH (show OB _ _ _ by have h := OB.new (w.alloc (.cells x.ar 37)) #[.slice none 0 0, .int .i64 0, .slice none 0 0, .int .i64 0, .int .i64 0] 37; simpa using h);have HB : Hd (Bl w ((w.alloc (.cells x.ar 37)).alloc (.cells #[.slice none 0 0, .int .i64 0, .slice none 0 0, .int .i64 0, .int .i64 0] 37))) := bl_alloc (bl_a _) _;have HC0 := iH (fun W (hb : Bl w W) => clone_own x.v W (h.1.upper (uB hb)));have HC1 := iH (fun W (hb : Bl w W) => termCopied x.t W (h.2.1.upper (uB hb)) h.2.2);clear h;go_in;go_upto_region 1 with fail
 generalize ((w.alloc _).alloc _) = W1 at *;have HG := iH HO.o.1;go_wp2_with fail
 refine wqd (fun w' => Bl w w' ∧ Box w' w.heap.size x.cl) ?_ fun hHeld => ?_
 · exact ⟨Below.drew HB.o, HX.o.below bdr⟩
 refine tqB 0 3 ?_;refine tqB 1 4 (v := .slice x.v.a x.v.len x.v.cap) (hy := by intro w' hSw; have c0 := hSw.2.2 0 _ rfl; go_simp; (try with_reducible rfl)) ?_;refine tqB 3 6 ?_;refine ldq 4 7 Tryz.underlying35 (fun w' h => h.2.range 1 [.int .i64 x.t.t.k, .slice x.t.t.a x.t.t.len x.t.t.cap, .int .i64 x.t.t.n, .int .i64 x.t.t.s] rfl) ?_;refine rqA 2 fun K hK => ?_;go_simp;refine (HC0.o _ hHeld.1).mono ?_;rintro r w2 ⟨y1, rfl, hy, hc, he, hb2⟩;replace HB := iH (bl_trans (Below.drew HB.o) hb2);replace HX := iH ((HX.o.below bdr).below hb2);replace HO := iH ((HO.o.below bdr).below hb2);replace HZ := iH (show W1.heap.size ≤ _ from hb2.size);have HC : Hd (Cp W1.heap.size w2.heap.size (y1.fp)) := hc;have HY1 : Hd (y1.own W1.heap.size w2) := hy;have HE1 := iH he;clear hy hc he hb2 hHeld;go_wp2_with fail
 refine rhK hK ⟨HB.o, HX.o⟩ fun hHeld => ?_;clear hK K;refine rqA 5 fun K hK => ?_;go_simp;refine (HC1.o _ hHeld.1).mono ?_;rintro r w3 ⟨y2, rfl, hy, hc, he, hb2⟩;replace HB := iH (bl_trans HB.o hb2);replace HX := iH (HX.o.below hb2);replace HO := iH (HO.o.below hb2);have HZn := iH (Nat.le_trans HZ.o hb2.size);replace HC := iH (HC.o.app hc HZ.o hb2.size);replace HY1 := iH (HY1.o.upper (uB hb2));have HY2 := iH (hy.base HZ.o);have HE2 := iH he;clear hy hc he hb2 hHeld HZ;have HZ := HZn;clear HZn;go_wp2_with fail
 refine rhK hK ⟨HB.o, HX.o⟩ fun hHeld => ?_;clear hK K;refine tqB 6 9 (v := .agg #[.slice y1.a y1.len y1.cap, .int .i64 y2.t.k, .slice y2.t.a y2.t.len y2.t.cap, .int .i64 y2.t.n, .int .i64 y2.t.s]) ?_;have st := HO.o.there 0 5 (by simp);have on := all_oneCell_toArray (cs := [.slice y1.a y1.len y1.cap, .int .i64 y2.t.k, .slice y2.t.a y2.t.len y2.t.cap, .int .i64 y2.t.n, .int .i64 y2.t.s]) (by simp [Value.oneCell']);have hrd : (w3.setCells (w.heap.size + 1) 0 [.slice y1.a y1.len y1.cap, .int .i64 y2.t.k, .slice y2.t.a y2.t.len y2.t.cap, .int .i64 y2.t.n, .int .i64 y2.t.s]).rangeAt (w.heap.size + 1) 0 [.slice y1.a y1.len y1.cap, .int .i64 y2.t.k, .slice y2.t.a y2.t.len y2.t.cap, .int .i64 y2.t.n, .int .i64 y2.t.s] := World.rangeAt_setCells_same _ _ _ _ st;have hbf := iH (below_sets (w0 := w) (w.heap.size + 1) (by omega) [.slice y1.a y1.len y1.cap, .int .i64 y2.t.k, .slice y2.t.a y2.t.len y2.t.cap, .int .i64 y2.t.n, .int .i64 y2.t.s] 0 w3 HB.o);have hxf := iH (HX.o.upper (but_sets (w.heap.size + 1) [.slice y1.a y1.len y1.cap, .int .i64 y2.t.k, .slice y2.t.a y2.t.len y2.t.cap, .int .i64 y2.t.n, .int .i64 y2.t.s] 0 w3) (by omega));have hsf := iH ((but_sets (w.heap.size + 1) [.slice y1.a y1.len y1.cap, .int .i64 y2.t.k, .slice y2.t.a y2.t.len y2.t.cap, .int .i64 y2.t.n, .int .i64 y2.t.s] 0 w3).size);have HY1f := iH ((HY1.o.upper ((upper_sets (w.heap.size + 1) [.slice y1.a y1.len y1.cap, .int .i64 y2.t.k, .slice y2.t.a y2.t.len y2.t.cap, .int .i64 y2.t.n, .int .i64 y2.t.s] 0 w3).mono HG.o)).base (by have := HG.o; omega : w.heap.size ≤ W1.heap.size));have HY2f := iH ((HY2.o.upper ((upper_sets (w.heap.size + 1) [.slice y1.a y1.len y1.cap, .int .i64 y2.t.k, .slice y2.t.a y2.t.len y2.t.cap, .int .i64 y2.t.n, .int .i64 y2.t.s] 0 w3).mono HG.o)).base (by have := HG.o; omega : w.heap.size ≤ W1.heap.size));refine rqA 7 fun K hK => ?_;refine step_storeV 37 (w.heap.size + 1) 0 #[.slice y1.a y1.len y1.cap, .int .i64 y2.t.k, .slice y2.t.a y2.t.len y2.t.cap, .int .i64 y2.t.n, .int .i64 y2.t.s] st on ?_;refine hK.out _ _ ?_ fun hHeld => ?_
 · exact ⟨hbf.o, hxf.o⟩
 clear hK K st on hHeld;try simp only [Act.put]
 generalize w3.setCells _ _ _ = W5 at *;refine wpAnyH_done (by kernel_rfl) ?_ _;go_wp2;try simp only [Exit.inBlock, Exit.then]
 refine bodyPost_ret (v := .agg #[.slice y1.a y1.len y1.cap, .int .i64 y2.t.k, .slice y2.t.a y2.t.len y2.t.cap, .int .i64 y2.t.n, .int .i64 y2.t.s]) ?hr rfl ?hp
 case hr => exact results_cell rfl rfl (run_loadVar_mid (P := Tryz.prog) _ (w.heap.size + 1) 0 37 [.slice y1.a y1.len y1.cap, .int .i64 y2.t.k, .slice y2.t.a y2.t.len y2.t.cap, .int .i64 y2.t.n, .int .i64 y2.t.s] _ hrd Tryz.underlying37 rfl (by kernel_rfl))
 have HCf : Cp w.heap.size W5.heap.size (y1.fp ++ y2.fp) := HC.o.mono (by have := HG.o; omega) (by rw [hsf.o]; exact nR);exact ⟨⟨y1, y2⟩, rfl, ⟨⟨HY1f.o.1, HY2f.o.1⟩, HY1f.o.2, HY2f.o.2⟩, HCf, ⟨HE1.o.symm, HE2.o⟩, hbf.o⟩
theorem patCopied (x : PB) (w : World) (h : x.lies 0 w) : Calls Tryz.prog 90 #[.agg x.ar] w fun e w' => ∃ y : PB, e = .returned (.agg y.ar) ∧ y.own w.heap.size w' ∧ Cp w.heap.size w'.heap.size y.fp ∧ x.same y ∧ Bl w w' := by
 have HX := iH ((Box.new w x.ar 39 (0, 0)).below (bl_a (.cells zPa 39)));have HO := iH (show OB _ _ _ by have h := OB.new (w.alloc (.cells x.ar 39)) zPa 39; simpa using h);have HB : Hd (Bl w ((w.alloc (.cells x.ar 39)).alloc (.cells zPa 39))) := bl_alloc (bl_a _) _;have HC0 := iH (fun W (hb : Bl w W) => itemCopied x.s W (h.1.upper (uB hb)));have HC1 := iH (fun W (hb : Bl w W) => itemCopied x.p W (h.2.1.upper (uB hb)));have HC2 := iH (fun W (hb : Bl w W) => itemCopied x.o W (h.2.2.upper (uB hb)));clear h;go_in;go_upto_region 1 with fail
 generalize ((w.alloc _).alloc _) = W1 at *;have HG := iH HO.o.1;go_wp2_with fail
 refine wqd (fun w' => Bl w w' ∧ Box w' w.heap.size x.cl) ?_ fun hHeld => ?_
 · exact ⟨Below.drew HB.o, HX.o.below bdr⟩
 refine tqB 0 3 ?_;refine ldq 1 4 Tryz.underlying37 (fun w' h => h.2.range 0 x.s.cl rfl) ?_;refine tqB 3 6 ?_;refine ldq 4 7 Tryz.underlying37 (fun w' h => h.2.range 5 x.p.cl rfl) ?_;refine tqB 6 9 ?_;refine ldq 7 10 Tryz.underlying37 (fun w' h => h.2.range 10 x.o.cl rfl) ?_;refine rqA 2 fun K hK => ?_;go_simp;refine (HC0.o _ hHeld.1).mono ?_;rintro r w2 ⟨y1, rfl, hy, hc, he, hb2⟩;replace HB := iH (bl_trans (Below.drew HB.o) hb2);replace HX := iH ((HX.o.below bdr).below hb2);replace HO := iH ((HO.o.below bdr).below hb2);replace HZ := iH (show W1.heap.size ≤ _ from hb2.size);have HC : Hd (Cp W1.heap.size w2.heap.size (y1.fp)) := hc;have HY1 : Hd (y1.own W1.heap.size w2) := hy;have HE1 := iH he;clear hy hc he hb2 hHeld;go_wp2_with fail
 refine rhK hK ⟨HB.o, HX.o⟩ fun hHeld => ?_;clear hK K;refine rqA 5 fun K hK => ?_;go_simp;refine (HC1.o _ hHeld.1).mono ?_;rintro r w3 ⟨y2, rfl, hy, hc, he, hb2⟩;replace HB := iH (bl_trans HB.o hb2);replace HX := iH (HX.o.below hb2);replace HO := iH (HO.o.below hb2);have HZn := iH (Nat.le_trans HZ.o hb2.size);replace HC := iH (HC.o.app hc HZ.o hb2.size);replace HY1 := iH (HY1.o.upper (uB hb2));have HY2 := iH (hy.base HZ.o);have HE2 := iH he;clear hy hc he hb2 hHeld HZ;have HZ := HZn;clear HZn;go_wp2_with fail
 refine rhK hK ⟨HB.o, HX.o⟩ fun hHeld => ?_;clear hK K;refine rqA 8 fun K hK => ?_;go_simp;refine (HC2.o _ hHeld.1).mono ?_;rintro r w4 ⟨y3, rfl, hy, hc, he, hb2⟩;replace HB := iH (bl_trans HB.o hb2);replace HX := iH (HX.o.below hb2);replace HO := iH (HO.o.below hb2);have HZn := iH (Nat.le_trans HZ.o hb2.size);replace HC := iH (HC.o.app hc HZ.o hb2.size);replace HY1 := iH (HY1.o.upper (uB hb2));replace HY2 := iH (HY2.o.upper (uB hb2));have HY3 := iH (hy.base HZ.o);have HE3 := iH he;clear hy hc he hb2 hHeld HZ;have HZ := HZn;clear HZn;go_wp2_with fail
 refine rhK hK ⟨HB.o, HX.o⟩ fun hHeld => ?_;clear hK K;refine tqB 9 12 (v := .agg (pA y1 y2 y3)) ?_;have st := HO.o.there 0 15 (by simp);have on := all_oneCell_toArray (cs := (pL y1 y2 y3)) (by simp [Value.oneCell']);have hrd : (w4.setCells (w.heap.size + 1) 0 (pL y1 y2 y3)).rangeAt (w.heap.size + 1) 0 (pL y1 y2 y3) := World.rangeAt_setCells_same _ _ _ _ st;have hbf := iH (below_sets (w0 := w) (w.heap.size + 1) (by omega) (pL y1 y2 y3) 0 w4 HB.o);have hxf := iH (HX.o.upper (but_sets (w.heap.size + 1) (pL y1 y2 y3) 0 w4) (by omega));have hsf := iH ((but_sets (w.heap.size + 1) (pL y1 y2 y3) 0 w4).size);have HY1f := iH ((HY1.o.upper ((upper_sets (w.heap.size + 1) (pL y1 y2 y3) 0 w4).mono HG.o)).base (by have := HG.o; omega : w.heap.size ≤ W1.heap.size));have HY2f := iH ((HY2.o.upper ((upper_sets (w.heap.size + 1) (pL y1 y2 y3) 0 w4).mono HG.o)).base (by have := HG.o; omega : w.heap.size ≤ W1.heap.size));have HY3f := iH ((HY3.o.upper ((upper_sets (w.heap.size + 1) (pL y1 y2 y3) 0 w4).mono HG.o)).base (by have := HG.o; omega : w.heap.size ≤ W1.heap.size));refine rqA 10 fun K hK => ?_;refine step_storeV 39 (w.heap.size + 1) 0 (pA y1 y2 y3) st on ?_;refine hK.out _ _ ?_ fun hHeld => ?_
 · exact ⟨hbf.o, hxf.o⟩
 clear hK K st on hHeld;try simp only [Act.put]
 generalize w4.setCells _ _ _ = W5 at *;refine wpAnyH_done (by kernel_rfl) ?_ _;go_wp2;try simp only [Exit.inBlock, Exit.then]
 refine bodyPost_ret (v := .agg (pA y1 y2 y3)) ?hr rfl ?hp
 case hr => exact results_cell rfl rfl (run_loadVar_mid (P := Tryz.prog) _ (w.heap.size + 1) 0 39 (pL y1 y2 y3) _ hrd Tryz.underlying39 rfl (by kernel_rfl))
 have HCf : Cp w.heap.size W5.heap.size (y1.fp ++ y2.fp ++ y3.fp) := HC.o.mono (by have := HG.o; omega) (by rw [hsf.o]; exact nR);exact ⟨⟨y1, y2, y3⟩, rfl, ⟨HY1f.o, HY2f.o, HY3f.o⟩, HCf, ⟨HE1.o, HE2.o, HE3.o⟩, hbf.o⟩
def catV (C : Nat → List Value) : Nat → List Value
 | 0 => []
 | n + 1 => catV C n ++ C n
theorem catV_congr {C C' : Nat → List Value} : ∀ {n : Nat}, (∀ i, i < n → C' i = C i) → catV C' n = catV C n
 | 0, _ => rfl
 | n + 1, h => by
   show catV C' n ++ C' n = catV C n ++ C n
   rw [catV_congr fun i hi => h i (by omega), h n (by omega)]
theorem catV_len {C : Nat → List Value} : ∀ {n : Nat}, (∀ i, i < n → (C i).length = sz) → (catV C n).length = n * sz
 | 0, _ => by simp [catV]
 | n + 1, h => by
   show (catV C n ++ C n).length = _
   rw [List.length_append, catV_len fun i hi => h i (by omega), h n (by omega), Nat.succ_mul]
theorem catV_get {C : Nat → List Value} : ∀ {n : Nat}, (∀ i, i < n → (C i).length = sz) → ∀ i c, i < n → c < sz → (catV C n)[i * sz + c]? = (C i)[c]?
 | 0, _, _, _, hi, _ => by omega
 | n + 1, h, i, c, hi, hc => by
   show (catV C n ++ C n)[i * sz + c]? = _
   have hl := catV_len (C := C) (sz := sz) (n := n) fun i hi => h i (by omega)
   by_cases e : i = n
   · subst e
     rw [List.getElem?_append_right (by omega), hl, show i * sz + c - i * sz = c by omega]
   have h2 : (i + 1) * sz ≤ n * sz := Nat.mul_le_mul_right sz (by omega)
   rw [Nat.succ_mul] at h2
   rw [List.getElem?_append_left (by omega)]
   exact catV_get (fun i hi => h i (by omega)) i c (by omega) hc
structure OwnCC (ty : TypeId) (sz : Nat) (w : World) (B : Nat) (v : Value) (n : Nat) (C : Nat → List Value) : Prop where
 row : w.ownsRow B ty sz v n (catV C n)
 len : ∀ i, i < n → (C i).length = sz
 blk : ∀ g, v.ownBlock = some g → B ≤ g ∧ g < w.heap.size
theorem OwnCC.nil (ty : TypeId) (sz : Nat) (w : World) (B : Nat) (C : Nat → List Value) : OwnCC ty sz w B (.slice none 0 0) 0 C := ⟨World.ownsRow_nil _ _ _ _, fun i hi => by omega, fun g h => by cases h⟩
theorem OwnCC.below {C : Nat → List Value} (h : OwnCC ty sz w B v n C) (hb : Bl w w') : OwnCC ty sz w' B v n C := by
 obtain ⟨⟨h1, h2⟩, hl, hk⟩ := h;refine ⟨⟨h1, ?_⟩, hl, fun g hg => ⟨(hk g hg).1, Nat.lt_of_lt_of_le (hk g hg).2 hb.size⟩⟩;rcases h2 with h2 | ⟨g', cap', cur, hv, hB, hh, r⟩
 · exact .inl h2
 refine .inr ⟨g', cap', cur, hv, hB, ?_, r⟩;have := (hk g' (by rw [hv]; rfl)).2;rw [hb.block g' this];exact hh
def RoZ (B : Nat) (w : World) (a : Option Addr) (n sz : Nat) : Prop := n = 0 ∨ RoW B w a (n * sz)
theorem RoZ.upper (h : RoZ B w a n sz) (hu : Upper B w w') : RoZ B w' a n sz := h.imp id fun h => h.upper hu
theorem RoZ.base (h : RoZ B w a n sz) (hB : B' ≤ B) : RoZ B' w a n sz := h.imp id fun h => h.base hB
theorem OwnCC.form {C : Nat → List Value} (h : OwnCC ty sz w B v n C) :
 ∃ a cap, v = .slice a n cap ∧ KRow B w sz a n C ∧ RoZ B w a n sz ∧ n ≤ cap ∧ ∀ g, v.ownBlock = some g → Go.Proofs.YtoloadogihbdeaaGreat.blk a = g := by
 rcases h.row.2 with ⟨rfl, h0⟩ | ⟨g, cap, cur, rfl, hB, hh, hle, _, hsz, htk⟩
 · subst h0
   exact ⟨none, 0, rfl, .inl rfl, .inl rfl, nR, fun g h => by cases h⟩
 have hlt := (h.blk g rfl).2;refine ⟨some ⟨g, 0, none⟩, cap, rfl, .inr ⟨g, 0, rfl, hB, hlt, fun i hi c u hu => ?_⟩, .inr ⟨g, rfl, .inr ⟨hB, hlt, fun j hj => ?_⟩⟩, hle, fun g' hg' => by cases hg'; rfl⟩
 · have hc : c < sz := by
    have := (List.getElem?_eq_some_iff.1 hu).1;rwa [h.len i hi] at this
   have h2 := Nat.mul_le_mul_right sz hi;rw [Nat.succ_mul] at h2;rw [← catV_get h.len i c hi hc, ← htk, List.getElem?_take, if_pos (by omega)] at hu;simp only [World.cell?, hh];simpa using hu
 simp only [World.frozen?, hh];simp
theorem appC {a : Act} (hgd : o.guard = none) (s x : Operand) (t ty : TypeId) (sz by_ : Nat) (z : Value)
 (ho : o.op = .call { callee := .builtin .append, args := #[s, x], argTypes := #[t, t] }) (ht : Tryz.prog.underlying t = some (.slice ty)) (hin : (Tryz.prog.info? ty).map (fun i => (i.zero, i.size, i.bytes)) = some (some z, sz, by_))
 (hzs : z.cells.size = sz) (hsz : 0 < sz) (hby : by_ ≤ 1000) (B : Nat) (v : Value) (n : Nat) (C : Nat → List Value) (hs : a.eval s = v) (HO : Hd (OwnCC ty sz w B v n C))
 (ad : Addr) (c : Nat) (cs : List Value) (hx : a.eval x = .slice (some ad) 1 c) (hl : cs.length = sz) (HN : Hd (∀ j u, cs[j]? = some u → w.cell? (ad.add j) = some u)) (h1 : Hd (∀ u ∈ cs, u.oneCell' = true))
 (hle : n ≤ 1048576) (hB : B ≤ w.heap.size) (C' : Nat → List Value) (hC : Hd (∀ i, i < n → C' i = C i)) (hCn : Hd (C' n = cs))
 (h : ∀ g cap w', Hd (OwnCC ty sz w' B (.slice (some ⟨g, 0, none⟩) (n + 1) cap) (n + 1) C') → Hd (v.ownBlock = some g ∨ g = w.heap.size) → Hd (w.grownBy w' v.ownBlock) → Hd (Below B w w') → wpList Tryz.prog ops Q rest (a.put o.dst (.slice (some ⟨g, 0, none⟩) (n + 1) cap)) w') :
 wpList Tryz.prog ops Q (o :: rest) a w := by
 obtain ⟨i0, hi0, hzz⟩ := Option.map_eq_some_iff.1 hin;simp only [Prod.mk.injEq] at hzz;obtain ⟨hi2, hi1, hi3⟩ := hzz;have hb2 : (n + 1) * by_ ≤ (n + 1) * 1000 := Nat.mul_le_mul_left _ hby
 refine wpList_append_lies _ hgd s x t ho B ty i0 z sz by_ ht hi0 hi2 hi1 hi3 hzs hsz v n (catV C n) hs HO.o.row ad 1 c cs hx (by rw [hl, Nat.one_mul]) HN.o h1.o (by omega) (by unfold maxLen; omega) (by omega) hB _ rfl ?_;intro g cap w' hown hgr hat hlt;have e : catV C' (n + 1) = catV C n ++ cs := by
  show catV C' n ++ C' n = _;rw [catV_congr hC.o, hCn.o]
 refine h g cap w' ⟨by rw [e]; exact hown, fun i hi => ?_, fun g' hg' => ?_⟩ hat hgr ?_
 · by_cases en : i = n
   · rw [en, hCn.o, hl]
   rw [hC.o i (by omega)];exact HO.o.len i (by omega)
 · have : g = g' := by simpa [Value.ownBlock] using hg'
   subst this;rcases hown.2 with ⟨hv, _⟩ | ⟨g0, c0, cur, hv, hb, _⟩
   · cases hv
   cases hv; exact ⟨hb, hlt⟩
 refine ⟨hgr.os, hgr.tape, hgr.output, hgr.size, fun b hb => hgr.block b (by omega) fun e => ?_⟩;have := (HO.o.blk b e.symm).1;omega
theorem app_stopC {a : Act} (s x : Operand) (t : TypeId) (_ho : o.op = .call { callee := .builtin .append, args := #[s, x], argTypes := #[t, t] }) (h : Hd (wpList Tryz.prog ops Q (o :: rest) a w)) : wpList Tryz.prog ops Q (o :: rest) a w := h
def catB (f : Nat → List Nat) : Nat → List Nat
 | 0 => []
 | n + 1 => catB f n ++ f n
theorem catB_congr {f f' : Nat → List Nat} : ∀ {n : Nat}, (∀ i, i < n → f' i = f i) → catB f' n = catB f n
 | 0, _ => rfl
 | n + 1, h => by
   show catB f' n ++ f' n = catB f n ++ f n
   rw [catB_congr fun i hi => h i (by omega), h n (by omega)]
theorem catB_mem {f : Nat → List Nat} {b : Nat} : ∀ {n : Nat}, i < n → b ∈ f i → b ∈ catB f n
 | 0, hi, _ => by omega
 | n + 1, hi, hb => by
   show b ∈ catB f n ++ f n
   by_cases e : i = n
   · exact List.mem_append_right _ (e ▸ hb)
   exact List.mem_append_left _ (catB_mem (by omega) hb)
def rfp (a : Option Addr) (n : Nat) : List Nat := if n = 0 then [] else [blk a]
structure RowO (ty : TypeId) (sz : Nat) (w wr : World) (v : Value) (j : Nat) (C : Nat → List Value) (f : Nat → List Nat) : Prop where
 own : OwnCC ty sz wr w.heap.size v j C
 cp : Cp w.heap.size wr.heap.size (catB f j)
 o : ∀ g, v.ownBlock = some g → g ∉ catB f j
 bel : Bl w wr
theorem RowO.nil (ty : TypeId) (sz : Nat) (C : Nat → List Value) (f : Nat → List Nat) (hb : Bl w wr) : RowO ty sz w wr (.slice none 0 0) 0 C f := ⟨OwnCC.nil _ _ _ _ _, Cp.nil _ _, (fun g h => by cases h), hb⟩
theorem RowO.below {C : Nat → List Value} {f : Nat → List Nat} (h : RowO ty sz w wr v j C f) (hb : Bl wr w') : RowO ty sz w w' v j C f :=
 ⟨h.own.below hb, h.cp.mono nR hb.size, h.o, bl_trans h.bel hb⟩
theorem RowO.add {w1 w2 : World} {g : Nat} {C C' : Nat → List Value} {f f' : Nat → List Nat} {L : List Nat} (h : RowO ty sz w w1 v j C f) (hm : w1.heap.size ≤ m) (hL : Cp m w2.heap.size L)
 (hs : m ≤ w2.heap.size) (hb : Bl w w') (ho : OwnCC ty sz w' w.heap.size (.slice (some ⟨g, 0, none⟩) (j + 1) cap) (j + 1) C') (hat : v.ownBlock = some g ∨ w2.heap.size ≤ g) (hs2 : w2.heap.size ≤ w'.heap.size)
 (hf : ∀ i, i < j → f' i = f i) (hfn : f' j = L) : RowO ty sz w w' (.slice (some ⟨g, 0, none⟩) (j + 1) cap) (j + 1) C' f' := by
 have e : catB f' (j + 1) = catB f j ++ L := by
  show catB f' j ++ f' j = _;rw [catB_congr hf, hfn]
 have hc := (h.cp.mono nR hm).app hL (Nat.le_trans h.bel.size hm) hs;refine ⟨ho, by rw [e]; exact hc.mono nR hs2, fun g' hg' hmem => ?_, hb⟩
 have eg : g = g' := by simpa [Value.ownBlock] using hg'
 subst eg;rw [e] at hmem;rcases hat with hat | hat
 · rcases List.mem_append.1 hmem with hmem | hmem
   · exact h.o g hat hmem
   have := (hL.i g hmem).1;have := (h.own.blk g hat).2;omega
 have := (hc.i g hmem).2;omega
theorem RowO.fin {C : Nat → List Value} {f : Nat → List Nat} (h : RowO ty sz w wr v n C f) :
 ∃ a cap, v = .slice a n cap ∧ n ≤ cap ∧ KRow w.heap.size wr sz a n C ∧ RoZ w.heap.size wr a n sz ∧ Cp w.heap.size wr.heap.size (rfp a n ++ catB f n) := by
 have ho := h.own;obtain ⟨a, cap, rfl, hK, hZ, hc, hg⟩ := h.own.form;refine ⟨a, cap, rfl, hc, hK, hZ, ?_⟩;unfold rfp;by_cases h0 : n = 0
 · rw [if_pos h0]
   exact h.cp
 rw [if_neg h0];rcases hZ with hz | ⟨g, rfl, _⟩
 · exact absurd hz h0
 have hb := ho.blk g rfl;refine ⟨List.nodup_cons.2 ⟨h.o g rfl, h.cp.nd⟩, fun b hb' => ?_⟩;rcases List.mem_cons.1 hb' with e | e
 · rw [e]; exact hb
 exact h.cp.i b e
def Stay (L : List Nat) (w w' : World) : Prop := (∀ b ∈ L, w'.heap[b]? = w.heap[b]?) ∧ w.heap.size ≤ w'.heap.size
theorem Stay.left {A L : List Nat} (h : Stay (A ++ L) w w') : Stay A w w' := ⟨fun b hb => h.1 b (List.mem_append_left _ hb), h.2⟩
theorem Stay.right {A L : List Nat} (h : Stay (A ++ L) w w') : Stay L w w' := ⟨fun b hb => h.1 b (List.mem_append_right _ hb), h.2⟩
theorem Stay.kid {f : Nat → List Nat} (h : Stay (catB f n) w w') (hi : i < n) : Stay (f i) w w' := ⟨fun b hb => h.1 b (catB_mem hi hb), h.2⟩
theorem SL.own.keep {x : SL} (h : x.own B w) (hk : Stay x.fp w w') : x.own B w' := by
 obtain ⟨⟨⟨h1, h2, h3, h4⟩, h5⟩, h6⟩ := h;by_cases h0 : x.len = 0
 · exact ⟨⟨⟨h1, h2, h3, .inl h0⟩, h5⟩, .inl h0⟩
 have hx : x.fp = [blk x.a] := by unfold SL.fp; rw [if_neg h0]
 rw [hx] at hk;obtain ⟨b, off, ha, hlt, hc⟩ := h4.resolve_left h0;have hb := hk.1 b (by rw [ha]; simp [blk]);obtain ⟨g, hg, hB, hgl, hf⟩ := h6.resolve_left h0;refine ⟨⟨⟨h1, h2, h3, .inr ⟨b, off, ha, Nat.lt_of_lt_of_le hlt hk.2, fun i hi => (World.cell?_of_block (w := w) (a := ⟨b, off + i, none⟩) hb).trans (hc i hi)⟩⟩, h5⟩, .inr ⟨g, hg, hB, Nat.lt_of_lt_of_le hgl hk.2, fun i hi => ?_⟩⟩;rw [ha] at hg;cases hg;exact (World.frozen?_of_block (w := w) (a := ⟨b, i, none⟩) hb).trans (hf i hi)
theorem TB.own.keep {x : TB} (h : x.own B w) (hk : Stay x.fp w w') : x.own B w' := by
 have h2 := SL.own.keep (x := x.sl) ⟨h.1.1, h.2⟩ hk;exact ⟨⟨h2.1, h.1.2⟩, h2.2⟩
theorem IB.own.keep {x : IB} (h : x.own B w) (hk : Stay x.fp w w') : x.own B w' := by
 have h1 := SL.own.keep (x := x.v) ⟨h.1.1, h.2.1⟩ hk.left;have h2 := SL.own.keep (x := x.t.sl) ⟨h.1.2.1, h.2.2⟩ hk.right;exact ⟨⟨h1.1, h2.1, h.1.2.2⟩, h1.2, h2.2⟩
theorem PB.own.keep {x : PB} (h : x.own B w) (hk : Stay x.fp w w') : x.own B w' := ⟨h.1.keep hk.left.left, h.2.1.keep hk.left.right, h.2.2.keep hk.right⟩
theorem row_keep {C : Nat → List Value} (hR : KRow B w sz a n C) (hZ : RoZ B w a n sz) (hk : Stay (rfp a n) w w') : KRow B w' sz a n C ∧ RoZ B w' a n sz := by
 by_cases h0 : n = 0
 · exact ⟨.inl h0, .inl h0⟩
 have hx : rfp a n = [blk a] := by unfold rfp; rw [if_neg h0]
 rw [hx] at hk;obtain ⟨b, off, ha, hB, hlt, hc⟩ := hR.resolve_left h0;obtain ⟨g, hg, hF⟩ := hZ.resolve_left h0;have hb := hk.1 b (by rw [ha]; simp [blk]);rw [ha] at hg;cases hg;refine ⟨.inr ⟨b, 0, ha, hB, Nat.lt_of_lt_of_le hlt hk.2, fun i hi c u hu => (World.cell?_of_block (w := w) (a := ⟨b, 0 + i * sz + c, none⟩) hb).trans (hc i hi c u hu)⟩, .inr ⟨b, ha, ?_⟩⟩;rcases hF with hF | ⟨h1, h2, h3⟩
 · exact .inl hF
 exact .inr ⟨h1, Nat.lt_of_lt_of_le h2 hk.2, fun j hj => (World.frozen?_of_block (w := w) (a := ⟨b, j, none⟩) hb).trans (h3 j hj)⟩
def ET.wz (B : Nat) (w : World) : ET → Prop
 | .nil => False
 | .mk d kid => TxW B w d.v ∧ TxW B w d.t.sl ∧ RoZ B w d.ka d.n 8 ∧ ∀ i, i < d.n → (kid i).wz B w
theorem ET.wr.wz (h : e.wr B w) : e.wz B w := by
 induction e with
 | nil => exact h
 | mk d kid ih => exact ⟨h.1, h.2.1, .inr h.2.2.1, fun i hi => ih i (h.2.2.2 i hi)⟩
def ET.fp : ET → List Nat
 | .nil => []
 | .mk d kid => d.v.fp ++ d.t.fp ++ (rfp d.ka d.n ++ catB (fun i => (kid i).fp) d.n)
structure ET.ow (B : Nat) (w : World) (e : ET) : Prop where
 l : e.lies B w
 z : e.wz B w
theorem ET.ow.upper (h : e.ow B w) (hu : Upper B w w') : e.ow B w' := by
 refine ⟨ET.lies.upper hu h.l, ?_⟩;replace h := h.z;induction e with
 | nil => exact h
 | mk d kid ih => exact ⟨h.1.upper hu, h.2.1.upper hu, h.2.2.1.upper hu, fun i hi => ih i (h.2.2.2 i hi)⟩
theorem ET.ow.base (h : e.ow B w) (hB : B' ≤ B) : e.ow B' w := by
 refine ⟨ET.lies.base hB h.l, ?_⟩;replace h := h.z;induction e with
 | nil => exact h
 | mk d kid ih => exact ⟨h.1.base hB, h.2.1.base hB, h.2.2.1.base hB, fun i hi => ih i (h.2.2.2 i hi)⟩
theorem ET.ow.keep (h : e.ow B w) (hk : Stay e.fp w w') : e.ow B w' := by
 obtain ⟨hl, hz⟩ := h;induction e with
 | nil => exact False.elim hl
 | mk d kid ih =>
  obtain ⟨l1, l2, l3, l4, l5, l6⟩ := hl;obtain ⟨z1, z2, z3, z4⟩ := hz;have a1 := SL.own.keep (x := d.v) ⟨l1, z1⟩ hk.left.left;have a2 := SL.own.keep (x := d.t.sl) ⟨l2, z2⟩ hk.left.right;have a3 := row_keep l5 z3 hk.right.left;have a4 := fun i hi => ih i (hk.right.right.kid hi) (l6 i hi) (z4 i hi);exact ⟨⟨a1.1, a2.1, l3, l4, a3.1, fun i hi => (a4 i hi).l⟩, ⟨a1.2, a2.2, a3.2, fun i hi => (a4 i hi).z⟩⟩
def copiesTR (w : World) (n : Nat) (kid : Nat → TB) (e : Ending) (w' : World) : Prop := ∃ (a' : Option Addr) (c' : Nat) (k' : Nat → TB), e = .returned (.slice a' n c') ∧ n ≤ c' ∧ KRow w.heap.size w' 4 a' n (fun i => enc4 (k' i).t) ∧ RoZ w.heap.size w' a' n 4 ∧ (∀ i, i < n → (k' i).own w.heap.size w') ∧ (∀ i, i < n → (kid i).td = (k' i).td) ∧ Cp w.heap.size w'.heap.size (rfp a' n ++ catB (fun i => (k' i).fp) n) ∧ Bl w w'
theorem infoT4 : (Tryz.prog.info? 35).map (fun i => (i.zero, i.size, i.bytes)) = some (some (.agg #[.int .i64 0, .slice none 0 0, .int .i64 0, .int .i64 0]), 4, 48) := by kernel_rfl
theorem copiesT (a : Option Addr) (cap n : Nat) (kid : Nat → TB) (w : World) (hn : n ≤ 1048576) (hR : KRow 0 w 4 a n (fun i => enc4 (kid i).t))
 (IH : ∀ i, i < n → ∀ W, Bl w W → Calls Tryz.prog 130 #[.agg #[.int .i64 (kid i).t.k, .slice (kid i).t.a (kid i).t.len (kid i).t.cap, .int .i64 (kid i).t.n, .int .i64 (kid i).t.s]] W fun e w' => ∃ y : TB, e = .returned (.agg #[.int .i64 y.t.k, .slice y.t.a y.t.len y.t.cap, .int .i64 y.t.n, .int .i64 y.t.s]) ∧ y.own W.heap.size w' ∧ Cp W.heap.size w'.heap.size y.fp ∧ (kid i).td = y.td ∧ Bl W w') :
 Calls Tryz.prog 93 #[.slice a n cap] w (copiesTR w n kid) := by
 have HI := iH IH;by_cases h0 : n = 0
 · subst h0
   clear hR HI IH;go_in;go_wp2;refine wl1 ?_;go_wp2;go_ret;exact ⟨none, 0, kid, rfl, nR, .inl rfl, .inl rfl, fun i hi => absurd hi nN, fun i hi => absurd hi nN, Cp.nil _ _, Below.refl _ _⟩
 obtain ⟨b, off, rfl, _, hlt, hc⟩ := hR.resolve_left h0;have HC := iH hc;clear hR hc IH h0;go_in;go_wp2_with fail
 go_loopw [3, 8] (fun o i wr => ∃ (j : Nat) (v : Value) (k' : Nat → TB), j ≤ n ∧ v = o ∧ i = .int .i64 j ∧ Hd (RowO 35 4 w wr v j (fun i => enc4 (k' i).t) (fun i => (k' i).fp)) ∧ Hd (∀ i, i < j → (k' i).own w.heap.size wr) ∧ Hd (∀ i, i < j → (kid i).td = (k' i).td))
  (fun _ i _ => n - (intOf i).toNat)
 case atStart => exact ⟨0, _, kid, nZ, rfl, rfl, RowO.nil _ _ _ _ brf, fun i hi => absurd hi nN, fun i hi => absurd hi nN⟩
 obtain ⟨j, v, k', hj, rfl, rfl, HR, HO, HS⟩ := hrel;by_cases hlj : j < n
 · have hcx : wr.rangeAt b (off + j * 4) [.int .i64 (kid j).t.k, .slice (kid j).t.a (kid j).t.len (kid j).t.cap, .int .i64 (kid j).t.n, .int .i64 (kid j).t.s] := fun c u hu => (HR.o.bel.cell (p := ⟨b, off + j * 4 + c, none⟩) hlt).trans (HC.o j hlj c u hu)
   have HX := iH (Box.new wr #[.int .i64 (kid j).t.k, .slice (kid j).t.a (kid j).t.len (kid j).t.cap, .int .i64 (kid j).t.n, .int .i64 (kid j).t.s] 35 (0, 0));have hl2 : (wr.alloc (.cells #[.int .i64 (kid j).t.k, .slice (kid j).t.a (kid j).t.len (kid j).t.cap, .int .i64 (kid j).t.n, .int .i64 (kid j).t.s] 35)).rangeAt wr.heap.size 0 [.int .i64 (kid j).t.k, .slice (kid j).t.a (kid j).t.len (kid j).t.cap, .int .i64 (kid j).t.n, .int .i64 (kid j).t.s] := HX.o.range 0 _ rfl;go_wp2_with (first | (with_reducible refine wpv_at ?_; refine ldr rfl rfl rfl Tryz.underlying35 hcx rfl ?_; try simp only [Act.put, sA, zA, cA]) | (with_reducible refine wpv_at ?_; refine ldr rfl rfl rfl Tryz.underlying35 hl2 rfl ?_; try simp only [Act.put, sA, zA, cA]))
   refine (HI.o j hlj _ (bl_alloc HR.o.bel _)).mono ?_;rintro e w2 ⟨y, rfl, hy, hcp, hsm, hb2⟩;have HY := iH hy;have HCP := iH hcp;have HSM := iH hsm;have HRo := iH (HR.o.below (bl_trans (bl_a (w := wr) (.cells #[.int .i64 (kid j).t.k, .slice (kid j).t.a (kid j).t.len (kid j).t.cap, .int .i64 (kid j).t.n, .int .i64 (kid j).t.s] 35)) hb2));have hsz : wr.heap.size + 1 ≤ w2.heap.size := by have h := hb2.size; simp at h; omega
   have HB2 := iH (bl_trans (bl_a (w := wr) (.cells #[.int .i64 (kid j).t.k, .slice (kid j).t.a (kid j).t.len (kid j).t.cap, .int .i64 (kid j).t.n, .int .i64 (kid j).t.s] 35)) hb2);clear hy hcp hsm hb2 hcx hl2 HX;have HOB := iH (HRo.o.below (bl_a (w := w2) (.cells #[.int .i64 y.t.k, .slice y.t.a y.t.len y.t.cap, .int .i64 y.t.n, .int .i64 y.t.s] 35)));have HOW := iH HOB.o.own;have HN : Hd (∀ j u, ([.int .i64 y.t.k, .slice y.t.a y.t.len y.t.cap, .int .i64 y.t.n, .int .i64 y.t.s] : List Value)[j]? = some u → (w2.alloc (.cells #[.int .i64 y.t.k, .slice y.t.a y.t.len y.t.cap, .int .i64 y.t.n, .int .i64 y.t.s] 35)).cell? ((⟨w2.heap.size, 0, none⟩ : Addr).add j) = some u) := fun j u hu => World.news_of_block (Go.heap_alloc_new _ _) j u hu;have H1 := iH (show ∀ u ∈ ([.int .i64 y.t.k, .slice y.t.a y.t.len y.t.cap, .int .i64 y.t.n, .int .i64 y.t.s] : List Value), u.oneCell' = true by intro u hu; simp only [List.mem_cons, List.not_mem_nil, or_false] at hu; rcases hu with rfl | rfl | rfl | rfl <;> rfl);have hBB := HOB.o.bel.size;obtain ⟨kn, hk1, hk2⟩ : ∃ kn : Nat → TB, (∀ i, i < j → kn i = k' i) ∧ kn j = y := ⟨fun i => if i = j then y else k' i, fun i hi => if_neg (by omega), if_pos rfl⟩;have HK1 := iH hk1;have HK2 := iH hk2;have HC1 := iH (fun i (hi : i < j) => (show enc4 (kn i).t = _ by rw [HK1.o i hi]));have HC2 : Hd ((fun i => enc4 (kn i).t) j = [.int .i64 y.t.k, .slice y.t.a y.t.len y.t.cap, .int .i64 y.t.n, .int .i64 y.t.s]) := (show enc4 _ = _ by rw [HK2.o]; rfl);clear hk1 hk2;go_wp2_with (with_reducible refine wpv_at ?_; refine app_stopC (.tmp 12) (.tmp 16) 43 rfl ?_)
   change wpList _ _ _ _ _ _;refine appC rfl (.tmp 12) (.tmp 16) 43 35 4 48 (.agg #[.int .i64 0, .slice none 0 0, .int .i64 0, .int .i64 0]) rfl Tryz.underlying43 infoT4 rfl (by omega) (by omega) w.heap.size _ j (fun i => enc4 (k' i).t) rfl HOW ⟨w2.heap.size, 0, none⟩ 1 [.int .i64 y.t.k, .slice y.t.a y.t.len y.t.cap, .int .i64 y.t.n, .int .i64 y.t.s] rfl rfl HN H1 (by omega) hBB (fun i => enc4 (kn i).t) HC1 HC2 ?_;intro g9 c9 w9 HO9 HA9 HG9 HD9;go_wp2;go_roundw
   case rel =>
    have hgr := HG9.o;have hst : ∀ L : List Nat, (∀ q ∈ L, q < w2.heap.size) → (∀ g, v.ownBlock = some g → g ∉ L) → Stay L w2 w9 := fun L h1 h2 => ⟨fun q hq => (hgr.block q (by have := h1 q hq; simp; omega) (fun e => h2 q e.symm hq)).trans ((bl_a (w := w2) (.cells #[.int .i64 y.t.k, .slice y.t.a y.t.len y.t.cap, .int .i64 y.t.n, .int .i64 y.t.s] 35)).block q (h1 q hq)), Nat.le_trans (bl_a (w := w2) (.cells #[.int .i64 y.t.k, .slice y.t.a y.t.len y.t.cap, .int .i64 y.t.n, .int .i64 y.t.s] 35)).size hgr.size⟩;refine ⟨j + 1, _, kn, by omega, rfl, by go_num, ?_, ?_, ?_⟩
    · refine RowO.add (w1 := wr) (m := wr.heap.size + 1) (w2 := w2) (v := v) (L := y.fp) (f := (fun i => (k' i).fp)) (C := (fun i => enc4 (k' i).t)) HR.o (Nat.le_succ _) (HCP.o.mono (by simp) nR) hsz (HOB.o.bel.trans HD9.o) HO9.o (HA9.o.imp id fun e => by rw [e]; simp) (Nat.le_trans (bl_a (w := w2) (.cells #[.int .i64 y.t.k, .slice y.t.a y.t.len y.t.cap, .int .i64 y.t.n, .int .i64 y.t.s] 35)).size hgr.size) (fun i hi => ?_) ?_
      · show (kn i).fp = _
        rw [HK1.o i hi]
      show (kn j).fp = _;rw [HK2.o]
    · intro i hi
      show (kn i).own w.heap.size w9;by_cases e : i = j
      · rw [e, HK2.o]
        refine TB.own.keep (w := w2) (HY.o.base (Nat.le_trans HR.o.bel.size (by simp))) (hst _ (fun q hq => (HCP.o.i q hq).2) fun g hg hm => ?_)
        have z1 := (HCP.o.i g hm).1;have z2 := (HR.o.own.blk g hg).2;simp at z1;omega
      rw [HK1.o i (by omega)];have hm : ∀ q, q ∈ (k' i).fp → q ∈ catB (fun i => (k' i).fp) j := fun q hq => catB_mem (f := (fun i => (k' i).fp)) (by omega) hq;exact (TB.own.keep (w := w2) ((HO.o i (by omega)).upper (uB HB2.o)) (hst _ (fun q hq => Nat.lt_of_lt_of_le (HR.o.cp.i q (hm q hq)).2 (Nat.le_trans (Nat.le_succ _) hsz)) fun g hg hq => HR.o.o g hg (hm g hq)))
    intro i hi;show (kid i).td = (kn i).td;by_cases e : i = j
    · rw [e, HK2.o]
      exact HSM.o
    rw [HK1.o i (by omega)];exact HS.o i (by omega)
   case measure => simp [intOf]; omega
 obtain rfl : j = n := by omega
 go_wp2_with fail
 obtain ⟨a', c', rfl, hcc, hK, hZ, hCp⟩ := HR.o.fin;go_ret;exact ⟨a', c', k', rfl, hcc, hK, hZ, HO.o, HS.o, hCp, HR.o.bel⟩
def copiesER (w : World) (n : Nat) (kid : Nat → ET) (e : Ending) (w' : World) : Prop := ∃ (a' : Option Addr) (c' : Nat) (k' : Nat → ET), e = .returned (.slice a' n c') ∧ n ≤ c' ∧ KRow w.heap.size w' 8 a' n (fun i => (k' i).d.cells) ∧ RoZ w.heap.size w' a' n 8 ∧ (∀ i, i < n → (k' i).ow w.heap.size w') ∧ (∀ i, i < n → (kid i).same (k' i)) ∧ Cp w.heap.size w'.heap.size (rfp a' n ++ catB (fun i => (k' i).fp) n) ∧ Bl w w'
theorem infoE9 : (Tryz.prog.info? 42).map (fun i => (i.zero, i.size, i.bytes)) = some (some (.agg zEa), 8, 112) := by kernel_rfl
theorem copiesE (a : Option Addr) (cap n : Nat) (kid : Nat → ET) (w : World) (hn : n ≤ 1048576) (hR : KRow 0 w 8 a n (fun i => (kid i).d.cells))
 (IH : ∀ i, i < n → ∀ W, Bl w W → Calls Tryz.prog 91 #[.agg (kid i).d.ar] W fun e w' => ∃ y : ET, e = .returned (.agg y.d.ar) ∧ y.ow W.heap.size w' ∧ Cp W.heap.size w'.heap.size y.fp ∧ (kid i).same y ∧ Bl W w') :
 Calls Tryz.prog 131 #[.slice a n cap] w (copiesER w n kid) := by
 try unfold EN.ar EN.cl
 have HI := iH IH;by_cases h0 : n = 0
 · subst h0
   clear hR HI IH;go_in;go_wp2;refine wl1 ?_;go_wp2;go_ret;exact ⟨none, 0, kid, rfl, nR, .inl rfl, .inl rfl, fun i hi => absurd hi nN, fun i hi => absurd hi nN, Cp.nil _ _, Below.refl _ _⟩
 obtain ⟨b, off, rfl, _, hlt, hc⟩ := hR.resolve_left h0;have HC := iH hc;clear hR hc IH h0;go_in;go_wp2_with fail
 go_loopw [3, 8] (fun o i wr => ∃ (j : Nat) (v : Value) (k' : Nat → ET), j ≤ n ∧ v = o ∧ i = .int .i64 j ∧ Hd (RowO 42 8 w wr v j (fun i => (k' i).d.cells) (fun i => (k' i).fp)) ∧ Hd (∀ i, i < j → (k' i).ow w.heap.size wr) ∧ Hd (∀ i, i < j → (kid i).same (k' i)))
  (fun _ i _ => n - (intOf i).toNat)
 case atStart => exact ⟨0, _, kid, nZ, rfl, rfl, RowO.nil _ _ _ _ brf, fun i hi => absurd hi nN, fun i hi => absurd hi nN⟩
 obtain ⟨j, v, k', hj, rfl, rfl, HR, HO, HS⟩ := hrel;by_cases hlj : j < n
 · have hcx : wr.rangeAt b (off + j * 8) (kid j).d.cl := fun c u hu => (HR.o.bel.cell (p := ⟨b, off + j * 8 + c, none⟩) hlt).trans (HC.o j hlj c u hu)
   have HX := iH (Box.new wr (kid j).d.ar 42 (0, 0));have hl2 : (wr.alloc (.cells (kid j).d.ar 42)).rangeAt wr.heap.size 0 (kid j).d.cl := HX.o.range 0 _ rfl;go_wp2_with (first | (with_reducible refine wpv_at ?_; refine wpList_load_mid rfl 42 _ rfl _ _ rfl (kid j).d.cl _ hcx Tryz.underlying42 rfl (by kernel_rfl) ?_; try simp only [Act.put, sA, zA, cA]) | (with_reducible refine wpv_at ?_; refine wpList_load_mid rfl 42 _ rfl _ _ rfl (kid j).d.cl _ hl2 Tryz.underlying42 rfl (by kernel_rfl) ?_; try simp only [Act.put, sA, zA, cA]))
   refine (HI.o j hlj _ (bl_alloc HR.o.bel _)).mono ?_;rintro e w2 ⟨y, rfl, hy, hcp, hsm, hb2⟩;have HY := iH hy;have HCP := iH hcp;have HSM := iH hsm;have HRo := iH (HR.o.below (bl_trans (bl_a (w := wr) (.cells (kid j).d.ar 42)) hb2));have hsz : wr.heap.size + 1 ≤ w2.heap.size := by have h := hb2.size; simp at h; omega
   have HB2 := iH (bl_trans (bl_a (w := wr) (.cells (kid j).d.ar 42)) hb2);clear hy hcp hsm hb2 hcx hl2 HX;have HOB := iH (HRo.o.below (bl_a (w := w2) (.cells y.d.ar 42)));have HOW := iH HOB.o.own;have HN : Hd (∀ j u, (y.d.cl : List Value)[j]? = some u → (w2.alloc (.cells y.d.ar 42)).cell? ((⟨w2.heap.size, 0, none⟩ : Addr).add j) = some u) := fun j u hu => World.news_of_block (Go.heap_alloc_new _ _) j u hu;have H1 := iH (show ∀ u ∈ (y.d.cl : List Value), u.oneCell' = true by intro u hu; simp only [List.mem_cons, List.not_mem_nil, or_false] at hu; rcases hu with rfl | rfl | rfl | rfl | rfl | rfl | rfl | rfl <;> rfl);have hBB := HOB.o.bel.size;obtain ⟨kn, hk1, hk2⟩ : ∃ kn : Nat → ET, (∀ i, i < j → kn i = k' i) ∧ kn j = y := ⟨fun i => if i = j then y else k' i, fun i hi => if_neg (by omega), if_pos rfl⟩;have HK1 := iH hk1;have HK2 := iH hk2;have HC1 := iH (fun i (hi : i < j) => (show (kn i).d.cells = _ by rw [HK1.o i hi]));have HC2 : Hd ((fun i => (kn i).d.cells) j = y.d.cl) := (show (kn j).d.cells = _ by rw [HK2.o]; rfl);clear hk1 hk2;go_wp2_with (with_reducible refine wpv_at ?_; refine app_stopC (.tmp 12) (.tmp 16) 40 rfl ?_)
   change wpList _ _ _ _ _ _;refine appC rfl (.tmp 12) (.tmp 16) 40 42 8 112 (.agg zEa) rfl Tryz.underlying40 infoE9 rfl (by omega) (by omega) w.heap.size _ j (fun i => (k' i).d.cells) rfl HOW ⟨w2.heap.size, 0, none⟩ 1 y.d.cl rfl rfl HN H1 (by omega) hBB (fun i => (kn i).d.cells) HC1 HC2 ?_;intro g9 c9 w9 HO9 HA9 HG9 HD9;go_wp2;go_roundw
   case rel =>
    have hgr := HG9.o;have hst : ∀ L : List Nat, (∀ q ∈ L, q < w2.heap.size) → (∀ g, v.ownBlock = some g → g ∉ L) → Stay L w2 w9 := fun L h1 h2 => ⟨fun q hq => (hgr.block q (by have := h1 q hq; simp; omega) (fun e => h2 q e.symm hq)).trans ((bl_a (w := w2) (.cells y.d.ar 42)).block q (h1 q hq)), Nat.le_trans (bl_a (w := w2) (.cells y.d.ar 42)).size hgr.size⟩;refine ⟨j + 1, _, kn, by omega, rfl, by go_num, ?_, ?_, ?_⟩
    · refine RowO.add (w1 := wr) (m := wr.heap.size + 1) (w2 := w2) (v := v) (L := y.fp) (f := (fun i => (k' i).fp)) (C := (fun i => (k' i).d.cells)) HR.o (Nat.le_succ _) (HCP.o.mono (by simp) nR) hsz (HOB.o.bel.trans HD9.o) HO9.o (HA9.o.imp id fun e => by rw [e]; simp) (Nat.le_trans (bl_a (w := w2) (.cells y.d.ar 42)).size hgr.size) (fun i hi => ?_) ?_
      · show (kn i).fp = _
        rw [HK1.o i hi]
      show (kn j).fp = _;rw [HK2.o]
    · intro i hi
      show (kn i).ow w.heap.size w9;by_cases e : i = j
      · rw [e, HK2.o]
        refine ET.ow.keep (w := w2) (HY.o.base (Nat.le_trans HR.o.bel.size (by simp))) (hst _ (fun q hq => (HCP.o.i q hq).2) fun g hg hm => ?_)
        have z1 := (HCP.o.i g hm).1;have z2 := (HR.o.own.blk g hg).2;simp at z1;omega
      rw [HK1.o i (by omega)];have hm : ∀ q, q ∈ (k' i).fp → q ∈ catB (fun i => (k' i).fp) j := fun q hq => catB_mem (f := (fun i => (k' i).fp)) (by omega) hq;exact (ET.ow.keep (w := w2) ((HO.o i (by omega)).upper (uB HB2.o)) (hst _ (fun q hq => Nat.lt_of_lt_of_le (HR.o.cp.i q (hm q hq)).2 (Nat.le_trans (Nat.le_succ _) hsz)) fun g hg hq => HR.o.o g hg (hm g hq)))
    intro i hi;show (kid i).same (kn i);by_cases e : i = j
    · rw [e, HK2.o]
      exact HSM.o
    rw [HK1.o i (by omega)];exact HS.o i (by omega)
   case measure => simp [intOf]; omega
 obtain rfl : j = n := by omega
 go_wp2_with fail
 obtain ⟨a', c', rfl, hcc, hK, hZ, hCp⟩ := HR.o.fin;go_ret;exact ⟨a', c', k', rfl, hcc, hK, hZ, HO.o, HS.o, hCp, HR.o.bel⟩
structure KR (α : Type) where
 a : Option Addr
 c : Nat
 k : Nat → α
structure KRE (n B : Nat) (w : World) (y : KR ET) : Prop where
 le : n ≤ y.c
 row : KRow B w 8 y.a n (fun i => (y.k i).d.cells)
 z : RoZ B w y.a n 8
 o : ∀ i, i < n → (y.k i).ow B w
theorem KRE.upper {y : KR ET} (h : KRE n B w y) (hu : Upper B w w') : KRE n B w' y := ⟨h.le, h.row.upper hu, h.z.upper hu, fun i hi => (h.o i hi).upper hu⟩
theorem KRE.base {y : KR ET} (h : KRE n B w y) (hB : B' ≤ B) : KRE n B' w y := ⟨h.le, h.row.base hB, h.z.base hB, fun i hi => (h.o i hi).base hB⟩
theorem exprCopied (e : ET) : ∀ (w : World), e.lies 0 w → Calls Tryz.prog 91 #[.agg e.d.ar] w fun r w' => ∃ y : ET, r = .returned (.agg y.d.ar) ∧ y.ow w.heap.size w' ∧ Cp w.heap.size w'.heap.size y.fp ∧ e.same y ∧ Bl w w' := by
 induction e with
 | nil => exact fun _ h => False.elim h
 | mk d kid ih =>
  intro w h;show Calls Tryz.prog 91 #[.agg d.ar] w fun r w' => ∃ y : ET, r = .returned (.agg y.d.ar) ∧ y.ow w.heap.size w' ∧ Cp w.heap.size w'.heap.size y.fp ∧ (ET.mk d kid).same y ∧ Bl w w';obtain ⟨hv, ht, hf, hn, hR, hk⟩ := h;have HX := iH ((Box.new w d.ar 42 (0, 0)).below (bl_a (.cells zEa 42)));have HO := iH (show OB _ _ _ by have h := OB.new (w.alloc (.cells d.ar 42)) zEa 42; simpa using h);have HB : Hd (Bl w ((w.alloc (.cells d.ar 42)).alloc (.cells zEa 42))) := bl_alloc (bl_a _) _;have HC0 := iH (fun W (hb : Bl w W) => clone_own d.v W (hv.upper (uB hb)));have HC1 := iH (fun W (hb : Bl w W) => termCopied d.t W (ht.upper (uB hb)) hf);have HC2 : Hd (∀ W, Bl w W → Cl 131 #[.slice d.ka d.n d.kc] W fun r w' => ∃ y : KR ET, r = .returned (.slice y.a d.n y.c) ∧ KRE d.n W.heap.size w' y ∧ Cp W.heap.size w'.heap.size (rfp y.a d.n ++ catB (fun i => (y.k i).fp) d.n) ∧ (∀ i, i < d.n → (kid i).same (y.k i)) ∧ Bl W w') := fun W hb => (copiesE _ _ d.n kid W hn (hR.upper (uB hb)) (fun i hi W' hW => ih i W' (ET.lies.upper (uB (bl_trans hb hW)) (hk i hi)))).mono fun r w' ⟨a', c', k', h1, h2, h3, h4, h5, h6, h7, h8⟩ => ⟨⟨a', c', k'⟩, h1, ⟨h2, h3, h4, h5⟩, h7, h6, h8⟩;have HN := iH hn;clear hv ht hf hn hR hk ih;go_in;go_upto_region 1 with fail
  generalize ((w.alloc _).alloc _) = W1 at *;have HG := iH HO.o.1;go_wp2_with fail
  refine wqd (fun w' => Bl w w' ∧ Box w' w.heap.size d.cl) ?_ fun hHeld => ?_
  · exact ⟨Below.drew HB.o, HX.o.below bdr⟩
  refine tqB 0 3 ?_;refine tqB 1 4 (v := .int .i64 d.k) (hy := by intro w' hSw; have c0 := hSw.2.2 0 _ rfl; go_simp; (try with_reducible rfl)) ?_;refine tqB 2 5 ?_;refine tqB 3 6 (v := .int .i64 d.op) (hy := by intro w' hSw; have c0 := hSw.2.2 1 _ rfl; go_simp; (try with_reducible rfl)) ?_;refine tqB 4 7 ?_;refine tqB 5 8 (v := .slice d.v.a d.v.len d.v.cap) (hy := by intro w' hSw; have c0 := hSw.2.2 2 _ rfl; go_simp; (try with_reducible rfl)) ?_;refine tqB 7 10 ?_;refine ldq 8 11 Tryz.underlying35 (fun w' h => h.2.range 3 [.int .i64 d.t.t.k, .slice d.t.t.a d.t.t.len d.t.t.cap, .int .i64 d.t.t.n, .int .i64 d.t.t.s] rfl) ?_;refine tqB 10 13 ?_;refine tqB 11 14 (v := .slice d.ka d.n d.kc) (hy := by intro w' hSw; have c0 := hSw.2.2 7 _ rfl; go_simp; (try with_reducible rfl)) ?_;refine rqA 6 fun K hK => ?_;go_simp;refine (HC0.o _ hHeld.1).mono ?_;rintro r w2 ⟨y1, rfl, hy, hc, he, hb2⟩;replace HB := iH (bl_trans (Below.drew HB.o) hb2);replace HX := iH ((HX.o.below bdr).below hb2);replace HO := iH ((HO.o.below bdr).below hb2);replace HZ := iH (show W1.heap.size ≤ _ from hb2.size);have HC : Hd (Cp W1.heap.size w2.heap.size (y1.fp)) := hc;have HY1 : Hd (y1.own W1.heap.size w2) := hy;have HE1 := iH he;clear hy hc he hb2 hHeld;go_wp2_with fail
  refine rhK hK ⟨HB.o, HX.o⟩ fun hHeld => ?_;clear hK K;refine rqA 9 fun K hK => ?_;go_simp;refine (HC1.o _ hHeld.1).mono ?_;rintro r w3 ⟨y2, rfl, hy, hc, he, hb2⟩;replace HB := iH (bl_trans HB.o hb2);replace HX := iH (HX.o.below hb2);replace HO := iH (HO.o.below hb2);have HZn := iH (Nat.le_trans HZ.o hb2.size);replace HC := iH (HC.o.app hc HZ.o hb2.size);replace HY1 := iH (HY1.o.upper (uB hb2));have HY2 := iH (hy.base HZ.o);have HE2 := iH he;clear hy hc he hb2 hHeld HZ;have HZ := HZn;clear HZn;go_wp2_with fail
  refine rhK hK ⟨HB.o, HX.o⟩ fun hHeld => ?_;clear hK K;refine rqA 12 fun K hK => ?_;go_simp;refine (HC2.o _ hHeld.1).mono ?_;rintro r w4 ⟨y3, rfl, hy, hc, he, hb2⟩;replace HB := iH (bl_trans HB.o hb2);replace HX := iH (HX.o.below hb2);replace HO := iH (HO.o.below hb2);have HZn := iH (Nat.le_trans HZ.o hb2.size);replace HC := iH (HC.o.app hc HZ.o hb2.size);replace HY1 := iH (HY1.o.upper (uB hb2));replace HY2 := iH (HY2.o.upper (uB hb2));have HY3 := iH (hy.base HZ.o);have HE3 := iH he;clear hy hc he hb2 hHeld HZ;have HZ := HZn;clear HZn;go_wp2_with fail
  refine rhK hK ⟨HB.o, HX.o⟩ fun hHeld => ?_;clear hK K;refine tqB 13 16 (v := .agg (eA d.k d.op y1 y2 (.slice y3.a d.n y3.c))) ?_;have st := HO.o.there 0 8 (by simp);have on := all_oneCell_toArray (cs := (eL d.k d.op y1 y2 (.slice y3.a d.n y3.c))) (by simp [Value.oneCell']);have hrd : (w4.setCells (w.heap.size + 1) 0 (eL d.k d.op y1 y2 (.slice y3.a d.n y3.c))).rangeAt (w.heap.size + 1) 0 (eL d.k d.op y1 y2 (.slice y3.a d.n y3.c)) := World.rangeAt_setCells_same _ _ _ _ st;have hbf := iH (below_sets (w0 := w) (w.heap.size + 1) (by omega) (eL d.k d.op y1 y2 (.slice y3.a d.n y3.c)) 0 w4 HB.o);have hxf := iH (HX.o.upper (but_sets (w.heap.size + 1) (eL d.k d.op y1 y2 (.slice y3.a d.n y3.c)) 0 w4) (by omega));have hsf := iH ((but_sets (w.heap.size + 1) (eL d.k d.op y1 y2 (.slice y3.a d.n y3.c)) 0 w4).size);have HY1f := iH ((HY1.o.upper ((upper_sets (w.heap.size + 1) (eL d.k d.op y1 y2 (.slice y3.a d.n y3.c)) 0 w4).mono HG.o)).base (by have := HG.o; omega : w.heap.size ≤ W1.heap.size));have HY2f := iH ((HY2.o.upper ((upper_sets (w.heap.size + 1) (eL d.k d.op y1 y2 (.slice y3.a d.n y3.c)) 0 w4).mono HG.o)).base (by have := HG.o; omega : w.heap.size ≤ W1.heap.size));have HY3f := iH ((HY3.o.upper ((upper_sets (w.heap.size + 1) (eL d.k d.op y1 y2 (.slice y3.a d.n y3.c)) 0 w4).mono HG.o)).base (by have := HG.o; omega : w.heap.size ≤ W1.heap.size));refine rqA 14 fun K hK => ?_;refine step_storeV 42 (w.heap.size + 1) 0 (eA d.k d.op y1 y2 (.slice y3.a d.n y3.c)) st on ?_;refine hK.out _ _ ?_ fun hHeld => ?_
  · exact ⟨hbf.o, hxf.o⟩
  clear hK K st on hHeld;try simp only [Act.put]
  generalize w4.setCells _ _ _ = W5 at *;refine wpAnyH_done (by kernel_rfl) ?_ _;go_wp2;try simp only [Exit.inBlock, Exit.then]
  refine bodyPost_ret (v := .agg (eA d.k d.op y1 y2 (.slice y3.a d.n y3.c))) ?hr rfl ?hp
  case hr => exact results_cell rfl rfl (run_loadVar_mid (P := Tryz.prog) _ (w.heap.size + 1) 0 42 (eL d.k d.op y1 y2 (.slice y3.a d.n y3.c)) _ hrd Tryz.underlying42 rfl (by kernel_rfl))
  have HCf : Cp w.heap.size W5.heap.size (y1.fp ++ y2.fp ++ (rfp y3.a d.n ++ catB (fun i => (y3.k i).fp) d.n)) := HC.o.mono (by have := HG.o; omega) (by rw [hsf.o]; exact nR);exact ⟨ET.mk ⟨d.k, d.op, y1, y2, y3.a, y3.c, d.n⟩ y3.k, rfl, ⟨⟨HY1f.o.1, HY2f.o.1.1, HY2f.o.1.2, HN.o, HY3f.o.row, fun i hi => (HY3f.o.o i hi).l⟩, ⟨HY1f.o.2, HY2f.o.2, HY3f.o.z, fun i hi => (HY3f.o.o i hi).z⟩⟩, HCf, ⟨rfl, rfl, HE1.o.symm, HE2.o, rfl, HE3.o⟩, hbf.o⟩
structure TR where
 a : Option Addr
 c : Nat
 l : List TB
structure TR.own (B : Nat) (w : World) (y : TR) : Prop where
 le : y.l.length ≤ y.c
 row : TRowF B w y.a y.l
 z : RoZ B w y.a y.l.length 4
 t : ∀ x ∈ y.l, TxW B w x.sl
theorem TR.own.upper {y : TR} (h : y.own B w) (hu : Upper B w w') : y.own B w' := ⟨h.le, h.row.upper hu, h.z.upper hu, fun x hx => (h.t x hx).upper hu⟩
theorem TR.own.base {y : TR} (h : y.own B w) (hB : B' ≤ B) : y.own B' w := ⟨h.le, h.row.base hB, h.z.base hB, fun x hx => (h.t x hx).base hB⟩
def tfp (a : Option Addr) (l : List TB) : List Nat := rfp a l.length ++ catB (fun i => (tbN l i).fp) l.length
theorem tbN_map {f : Nat → TB} (hi : i < n) : tbN ((List.range n).map f) i = f i := by
 unfold tbN;rw [List.getElem?_map, List.getElem?_range hi];rfl
theorem krow_trowZ {f : Nat → TB} (h : KRow B w 4 a n (fun i => enc4 (f i).t)) (hz : RoZ B w a n 4) (hl : ∀ i, i < n → (f i).lies B w) : TRowF B w a ((List.range n).map f) := by
 rcases hz with rfl | ⟨g, rfl, _⟩
 · exact ⟨.inl rfl, .inl rfl, fun x hx => by cases hx⟩
 exact krow_trow h hl
theorem termsCopied (a : Option Addr) (cap : Nat) (tb : List TB) (w : World) (hn : tb.length ≤ 1048576) (h : TRowF 0 w a tb) :
 Calls Tryz.prog 93 #[.slice a tb.length cap] w fun e w' => ∃ y : TR, e = .returned (.slice y.a y.l.length y.c) ∧ y.own w.heap.size w' ∧ Cp w.heap.size w'.heap.size (tfp y.a y.l) ∧ tb.map TB.td = y.l.map TB.td ∧ Bl w w' := by
 refine (copiesT a cap tb.length (tbG tb) w hn (trow_krow h) fun i hi W hW => ?_).mono ?_
 · have hm := (tbG_at hi)
   have h2 := h.2.2 _ hm.2;rw [← hm.1] at h2;exact termCopied (tbG tb i) W (h2.1.upper (uB hW)) h2.2
 rintro e w' ⟨a', c', f, rfl, h1, h2, h3, h4, h5, h6, h7⟩;have el : ((List.range tb.length).map f).length = tb.length := by simp
 refine ⟨⟨a', c', (List.range tb.length).map f⟩, by rw [el], ⟨by rw [el]; exact h1, krow_trowZ h2 h3 (fun i hi => (h4 i hi).1), by rw [el]; exact h3, fun x hx => ?_⟩, ?_, ?_, h7⟩
 · obtain ⟨i, hi, rfl⟩ := List.mem_map.1 hx
   exact (h4 i (List.mem_range.1 hi)).2
 · unfold tfp
   rw [el, catB_congr (f := fun i => (f i).fp) fun i hi => (by show (tbN _ i).fp = _; rw [tbN_map hi])];exact h6
 apply List.ext_getElem
 · simp
 intro i hi hi';have hi1 : i < tb.length := by simpa using hi
 have := h5 i hi1;rw [(tbG_at hi1).1] at this;simpa using this
theorem wpq_at {P : Program} {op : Oper} {a : Act} (h : wpList P ops Q (op :: rest) a w) : wpList P ops Q (op :: rest) a w := h
def kidsP (k : Int) : Nat := if k = 7 ∨ k = 8 then 0 else if k = 0 ∨ k = 5 ∨ k = 6 then 1 else 2
structure NodeP (d : PN) : Prop where
 k0 : 0 ≤ d.k
 k8 : d.k ≤ 8
 o0 : 0 ≤ d.ord
 o5 : d.ord ≤ 5
 n : d.n = kidsP d.k
 p1 : d.k = 0 → ptOk d.p
 p0 : d.k ≠ 0 → zeroP d.p
 oz : d.k ≠ 0 → d.ord = 0
 t0 : d.k ≠ 7 → d.tb = []
 tn : d.tb.length ≤ 8
 e1 : hasE d.k → eOk 120 d.e 1
 e0 : ¬ hasE d.k → zeroE d.e
 v1 : hasV d.k → nameOk d.v.b = true
 v0 : ¬ hasV d.k → d.v.b = []
 tm : ∀ x ∈ d.tb, x.td.ok = true
def cellsT (d : PN) (k : Int) (nt : Nat) : List Value := [.int .i64 k, .int .i64 d.ord, .slice d.p.s.v.a d.p.s.v.len d.p.s.v.cap, .int .i64 d.p.s.t.t.k, .slice d.p.s.t.t.a d.p.s.t.t.len d.p.s.t.t.cap, .int .i64 d.p.s.t.t.n, .int .i64 d.p.s.t.t.s, .slice d.p.p.v.a d.p.p.v.len d.p.p.v.cap, .int .i64 d.p.p.t.t.k, .slice d.p.p.t.t.a d.p.p.t.t.len d.p.p.t.t.cap, .int .i64 d.p.p.t.t.n, .int .i64 d.p.p.t.t.s, .slice d.p.o.v.a d.p.o.v.len d.p.o.v.cap, .int .i64 d.p.o.t.t.k, .slice d.p.o.t.t.a d.p.o.t.t.len d.p.o.t.t.cap, .int .i64 d.p.o.t.t.n, .int .i64 d.p.o.t.t.s, .int .i64 d.e.d.k, .int .i64 d.e.d.op, .slice d.e.d.v.a d.e.d.v.len d.e.d.v.cap, .int .i64 d.e.d.t.t.k, .slice d.e.d.t.t.a d.e.d.t.t.len d.e.d.t.t.cap, .int .i64 d.e.d.t.t.n, .int .i64 d.e.d.t.t.s, .slice d.e.d.ka d.e.d.n d.e.d.kc, .slice d.v.a d.v.len d.v.cap, .slice d.ta nt d.tc, .slice d.ka d.n d.kc]
def ownP (d : PN) : Nat := 1 + (if d.k = 2 ∨ d.k = 5 ∨ d.k = 6 then esz d.e else 0)
def pOk : PT → Int → Prop
 | .nil, _ => False
 | .mk d kid, deep => deep ≤ 480 ∧ NodeP d ∧ ∀ i, i < d.n → pOk (kid i) (deep + 1)
def psz : PT → Nat
 | .nil => 0
 | .mk d kid => ownP d + sumN d.n (fun i => psz (kid i))
theorem psz_mk (d : PN) (kid : Nat → PT) : psz (.mk d kid) = ownP d + sumN d.n (fun i => psz (kid i)) := rfl
theorem pOk_no {deep : Int} {d : PN} {kid : Nat → PT} {L : Int} {s : Nat} (h : ¬ NodeP d) : ¬ (pOk (.mk d kid) deep ∧ (s : Int) ≤ L) := fun hh => h hh.1.2.1
end Go.Proofs.YtoloadogihbdeaaGreat
