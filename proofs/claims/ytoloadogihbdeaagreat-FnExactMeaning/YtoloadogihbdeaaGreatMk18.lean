import Derived.Test.YtoloadogihbdeaaGreatMk17
import Derived.Lib.SliceRun
namespace Go.Proofs.YtoloadogihbdeaaGreat
open Go.RowKit Go.Deep
set_option maxHeartbeats 40000000
set_option maxRecDepth 100000
structure Cp (lo hi : Nat) (L : List Nat) : Prop where
 nd : L.Nodup
 i : ∀ b ∈ L, lo ≤ b ∧ b < hi
theorem Cp.nil (lo hi : Nat) : Cp lo hi [] := ⟨List.nodup_nil, fun b h => by cases h⟩
theorem Cp.mono {lo hi lo' hi' : Nat} {L : List Nat} (h : Cp lo hi L) (h1 : lo' ≤ lo) (h2 : hi ≤ hi') : Cp lo' hi' L := ⟨h.nd, fun b hb => ⟨Nat.le_trans h1 (h.i b hb).1, Nat.lt_of_lt_of_le (h.i b hb).2 h2⟩⟩
theorem Cp.app {lo m hi : Nat} {A L : List Nat} (h : Cp lo m A) (k : Cp m hi L) (h1 : lo ≤ m) (h2 : m ≤ hi) : Cp lo hi (A ++ L) := by
 refine ⟨List.nodup_append.2 ⟨h.nd, k.nd, fun a ha b hb e => ?_⟩, fun b hb => ?_⟩
 · have := (h.i a ha).2
   have := (k.i b hb).1
   omega
 rcases List.mem_append.1 hb with hb | hb
 · have := h.i b hb
   omega
 have := k.i b hb
 omega
def SL.fp (x : SL) : List Nat := if x.len = 0 then [] else [blk x.a]
def IB.fp (x : IB) : List Nat := x.v.fp ++ x.t.sl.fp
def PB.fp (x : PB) : List Nat := x.s.fp ++ x.p.fp ++ x.o.fp
def TB.fp (x : TB) : List Nat := x.sl.fp
theorem Tz.own {w w' : World} {a : Option Addr} {len cap : Nat} {bs : List Int} (h : Tz w' w.heap.size a len cap bs) : (SL.mk a len cap bs).own w.heap.size w' ∧ Cp w.heap.size w'.heap.size (SL.mk a len cap bs).fp := by
 obtain ⟨hb, hz⟩ := h
 by_cases h0 : len = 0
 · refine ⟨⟨⟨hb, .inl h0⟩, .inl h0⟩, ?_⟩
   unfold SL.fp
   rw [if_pos h0]
   exact Cp.nil _ _
 rcases hz with ⟨_, h, _⟩ | ⟨g, rfl, hB, hg, hl, hc⟩
 · exact absurd h h0
 refine ⟨⟨⟨hb, .inr fun p hp => by cases hp; exact hB⟩, .inr ⟨g, rfl, hB, hg, fun i hi => (hc i (Nat.lt_of_lt_of_le hi hl)).2⟩⟩, ?_⟩
 unfold SL.fp
 rw [if_neg h0]
 exact ⟨List.nodup_cons.2 ⟨by simp, List.nodup_nil⟩, fun b hb => by rw [List.mem_singleton] at hb; rw [hb]; exact ⟨hB, hg⟩⟩
theorem clone_own (x : SL) (w : World) (hx : BsF 0 w x) :
 Calls Tryz.prog 92 #[.slice x.a x.len x.cap] w fun e w' => ∃ y : SL, e = .returned (.slice y.a y.len y.cap) ∧ y.own w.heap.size w' ∧ Cp w.heap.size w'.heap.size y.fp ∧ y.b = x.b ∧ Bl w w' := by
 have hq : ∀ (w : World) (a : Option Addr) (n c n' c' : Nat), (binOp .eql 23 (.slice a n c) (.slice none n' c')).run Tryz.prog w = .ok (.bool a.isNone) w := fun w a n c n' c' => Lib.run_eql_slice_nil w _ _ a n c n' c' Tryz.underlying23
 have hl : x.len ≤ 1048576 := hx.1.2.1
 cases ha : x.a with
 | none =>
  have h0 : x.len = 0 := by
   rcases hx.1.2.2.2 with h | ⟨b, off, e, _⟩
   · exact h
   rw [ha] at e; cases e
  have hb : Hd (x.b = []) := List.eq_nil_of_length_eq_zero (by rw [hx.1.1, h0])
  clear hx ha h0 hl
  go_in
  go_wp2
  go_ret
  refine ⟨⟨none, 0, 0, []⟩, rfl, ⟨⟨⟨rfl, nZ, fun i => ?_, .inl rfl⟩, .inl rfl⟩, .inl rfl⟩, Cp.nil _ _, hb.o.symm, Below.refl _ _⟩
  show 0 ≤ ([] : List Int)[i]?.getD 0 ∧ ([] : List Int)[i]?.getD 0 ≤ 255
  simp
 | some ad =>
  have HBX := iH (BsF.upper hx (uB (bl_a (.cells #[] 5))))
  have HBS : Hd (Bs (w.alloc (.cells #[] 5)) (some ad) x.len x.b) := (show Bs _ _ _ _ by have h := HBX.o.1; rwa [ha] at h)
  have HTX := iH (Tz.new0v w)
  have HSX : Hd (Src Tryz.prog 1 23 (.slice (some ad) x.len x.cap) x.len (x.b.map (Value.int .u8)) (w.alloc (.cells #[] 5))) := src_bs HBS.o
  have HYX : Hd (Byt ([] ++ x.b)) := Byt.of HBS.o.2.2.1
  have hBX : w.heap.size ≤ (w.alloc (.cells #[] 5)).heap.size := by simp
  clear hx ha
  go_in
  go_wp2_with (refine list_app8z rfl (.tmp 5) (.tmp 6) 23 rfl w.heap.size 0 0 (some ⟨w.heap.size, 0, none⟩) [] rfl HTX (.slice (some ad) x.len x.cap) x.len x.b rfl (fun h => by cases h) HSX HYX x.len (Nat.zero_add _) x.b (List.nil_append _) (by omega) hBX ?_; intro g4 c4 w4 HT4 HD4)
  go_ret
  have h := HT4.o.own (w := w)
  exact ⟨⟨some ⟨g4, 0, none⟩, x.len, c4, x.b⟩, rfl, h.1, h.2, rfl, (bl_a (w := w) (.cells #[] 5)).trans HD4.o⟩
theorem termCopied (t : TB) (w : World) (h : BsF 0 w t.sl) (hf : t.t.fits) : Calls Tryz.prog 130 #[.agg #[.int .i64 t.t.k, .slice t.t.a t.t.len t.t.cap, .int .i64 t.t.n, .int .i64 t.t.s]] w fun e w' => ∃ y : TB, e = .returned (.agg #[.int .i64 y.t.k, .slice y.t.a y.t.len y.t.cap, .int .i64 y.t.n, .int .i64 y.t.s]) ∧ y.own w.heap.size w' ∧ Cp w.heap.size w'.heap.size y.fp ∧ t.td = y.td ∧ Bl w w' := by
 have HX := iH ((Box.new w #[.int .i64 t.t.k, .slice t.t.a t.t.len t.t.cap, .int .i64 t.t.n, .int .i64 t.t.s] 35 (0, 0)).below (bl_a (.cells #[.int .i64 0, .slice none 0 0, .int .i64 0, .int .i64 0] 35)))
 have HO : Hd (OB ((w.alloc (.cells #[.int .i64 t.t.k, .slice t.t.a t.t.len t.t.cap, .int .i64 t.t.n, .int .i64 t.t.s] 35)).alloc (.cells #[.int .i64 0, .slice none 0 0, .int .i64 0, .int .i64 0] 35)) (w.heap.size + 1) [.int .i64 0, .slice none 0 0, .int .i64 0, .int .i64 0]) := (show OB _ _ _ by have h := OB.new (w.alloc (.cells #[.int .i64 t.t.k, .slice t.t.a t.t.len t.t.cap, .int .i64 t.t.n, .int .i64 t.t.s] 35)) #[.int .i64 0, .slice none 0 0, .int .i64 0, .int .i64 0] 35; simpa using h)
 have HB : Hd (Bl w ((w.alloc (.cells #[.int .i64 t.t.k, .slice t.t.a t.t.len t.t.cap, .int .i64 t.t.n, .int .i64 t.t.s] 35)).alloc (.cells #[.int .i64 0, .slice none 0 0, .int .i64 0, .int .i64 0] 35))) := bl_alloc (bl_a _) _
 have HC0 := iH (fun W (hb : Bl w W) => clone_own t.sl W (h.upper (uB hb)))
 have HF := iH hf
 clear h hf
 go_in
 go_upto_region 1 with fail
 generalize ((w.alloc _).alloc _) = W1 at *
 have HG : Hd (w.heap.size + 1 < W1.heap.size) := HO.o.1
 go_wp2_with fail
 refine wqd (fun w' => Bl w w' ∧ Box w' w.heap.size [.int .i64 t.t.k, .slice t.t.a t.t.len t.t.cap, .int .i64 t.t.n, .int .i64 t.t.s]) ?_ fun hHeld => ?_
 · exact ⟨Below.drew HB.o, HX.o.below bdr⟩
 refine tqB 0 3 ?_
 refine tqB 1 4 (v := .int .i64 t.t.k) (hy := by intro w' hSw; have c0 := hSw.2.2 0 _ rfl; go_simp; (try with_reducible rfl)) ?_
 refine tqB 2 5 ?_
 refine tqB 3 6 (v := .slice t.t.a t.t.len t.t.cap) (hy := by intro w' hSw; have c0 := hSw.2.2 1 _ rfl; go_simp; (try with_reducible rfl)) ?_
 refine tqB 5 8 ?_
 refine tqB 6 9 (v := .int .i64 t.t.n) (hy := by intro w' hSw; have c0 := hSw.2.2 2 _ rfl; go_simp; (try with_reducible rfl)) ?_
 refine tqB 7 10 ?_
 refine tqB 8 11 (v := .int .i64 t.t.s) (hy := by intro w' hSw; have c0 := hSw.2.2 3 _ rfl; go_simp; (try with_reducible rfl)) ?_
 refine rqA 4 fun K hK => ?_
 go_simp
 refine (HC0.o _ hHeld.1).mono ?_
 rintro r w2 ⟨y1, rfl, hy, hc, he, hb2⟩
 have HBn := iH (bl_trans (Below.drew HB.o) hb2)
 have HXn := iH ((HX.o.below bdr).below hb2)
 have HOn := iH ((HO.o.below bdr).below hb2)
 have HZn : Hd (W1.heap.size ≤ w2.heap.size) := (show W1.heap.size ≤ _ from hb2.size)
 have HC : Hd (Cp W1.heap.size w2.heap.size (y1.fp)) := hc
 have HY1 : Hd (y1.own W1.heap.size w2) := hy
 have HE1 := iH he
 clear hy hc he hb2 hHeld HB HX HO
 have HB := HBn
 have HX := HXn
 have HO := HOn
 have HZ := HZn
 clear HBn HXn HOn HZn
 go_wp2_with fail
 refine hK.out _ _ ?_ fun hHeld => ?_
 · exact ⟨HB.o, HX.o⟩
 clear hK K
 try simp only [Act.put, sA, zA, cA]
 refine tqB 9 12 (v := .agg #[.int .i64 t.t.k, .slice y1.a y1.len y1.cap, .int .i64 t.t.n, .int .i64 t.t.s]) ?_
 have st : w2.there (w.heap.size + 1) 0 4 := HO.o.there 0 4 (by simp)
 have on : (#[.int .i64 t.t.k, .slice y1.a y1.len y1.cap, .int .i64 t.t.n, .int .i64 t.t.s] : Array Value).all (·.oneCell') = true := all_oneCell_toArray (cs := [.int .i64 t.t.k, .slice y1.a y1.len y1.cap, .int .i64 t.t.n, .int .i64 t.t.s]) (by simp [Value.oneCell'])
 have hrd : (w2.setCells (w.heap.size + 1) 0 [.int .i64 t.t.k, .slice y1.a y1.len y1.cap, .int .i64 t.t.n, .int .i64 t.t.s]).rangeAt (w.heap.size + 1) 0 [.int .i64 t.t.k, .slice y1.a y1.len y1.cap, .int .i64 t.t.n, .int .i64 t.t.s] := World.rangeAt_setCells_same _ _ _ _ st
 have hbf := iH (below_sets (w0 := w) (w.heap.size + 1) (by omega) [.int .i64 t.t.k, .slice y1.a y1.len y1.cap, .int .i64 t.t.n, .int .i64 t.t.s] 0 w2 HB.o)
 have hxf := iH (HX.o.upper (but_sets (w.heap.size + 1) [.int .i64 t.t.k, .slice y1.a y1.len y1.cap, .int .i64 t.t.n, .int .i64 t.t.s] 0 w2) (by omega))
 have hsf : Hd ((w2.setCells (w.heap.size + 1) 0 [.int .i64 t.t.k, .slice y1.a y1.len y1.cap, .int .i64 t.t.n, .int .i64 t.t.s]).heap.size = w2.heap.size) := (but_sets (w.heap.size + 1) [.int .i64 t.t.k, .slice y1.a y1.len y1.cap, .int .i64 t.t.n, .int .i64 t.t.s] 0 w2).size
 have HY1f := iH ((HY1.o.upper ((upper_sets (w.heap.size + 1) [.int .i64 t.t.k, .slice y1.a y1.len y1.cap, .int .i64 t.t.n, .int .i64 t.t.s] 0 w2).mono HG.o)).base (by have := HG.o; omega : w.heap.size ≤ W1.heap.size))
 refine rqA 10 fun K hK => ?_
 refine step_storeV 35 (w.heap.size + 1) 0 #[.int .i64 t.t.k, .slice y1.a y1.len y1.cap, .int .i64 t.t.n, .int .i64 t.t.s] st on ?_
 refine hK.out _ _ ?_ fun hHeld => ?_
 · exact ⟨hbf.o, hxf.o⟩
 clear hK K st on hHeld
 try simp only [Act.put]
 generalize w2.setCells (w.heap.size + 1) 0 [.int .i64 t.t.k, .slice y1.a y1.len y1.cap, .int .i64 t.t.n, .int .i64 t.t.s] = W5 at *
 refine wpAnyH_done (by kernel_rfl) ?_ _
 go_wp2
 try simp only [Exit.inBlock, Exit.then]
 refine bodyPost_ret (v := .agg #[.int .i64 t.t.k, .slice y1.a y1.len y1.cap, .int .i64 t.t.n, .int .i64 t.t.s]) ?hr rfl ?hp
 case hr => exact results_cell rfl rfl (run_loadVar_mid (P := Tryz.prog) _ (w.heap.size + 1) 0 35 [.int .i64 t.t.k, .slice y1.a y1.len y1.cap, .int .i64 t.t.n, .int .i64 t.t.s] _ hrd Tryz.underlying35 rfl (by kernel_rfl))
 have HCf : Cp w.heap.size W5.heap.size (y1.fp) := HC.o.mono (by have := HG.o; omega) (by rw [hsf.o]; exact nR)
 refine ⟨⟨⟨t.t.k, y1.a, y1.len, y1.cap, t.t.n, t.t.s⟩, y1.b⟩, rfl, ⟨⟨HY1f.o.1, HF.o⟩, HY1f.o.2⟩, HCf, ?_, hbf.o⟩
 show (⟨t.t.k, t.b, t.t.n, t.t.s⟩ : TD) = ⟨t.t.k, y1.b, t.t.n, t.t.s⟩
 rw [show y1.b = t.b from HE1.o]
theorem itemCopied (x : IB) (w : World) (h : x.lies 0 w) : Calls Tryz.prog 129 #[.agg x.ar] w fun e w' => ∃ y : IB, e = .returned (.agg y.ar) ∧ y.own w.heap.size w' ∧ Cp w.heap.size w'.heap.size y.fp ∧ x.same y ∧ Bl w w' := by
 have HX := iH ((Box.new w x.ar 37 (0, 0)).below (bl_a (.cells #[.slice none 0 0, .int .i64 0, .slice none 0 0, .int .i64 0, .int .i64 0] 37)))
 have HO : Hd (OB ((w.alloc (.cells x.ar 37)).alloc (.cells #[.slice none 0 0, .int .i64 0, .slice none 0 0, .int .i64 0, .int .i64 0] 37)) (w.heap.size + 1) [.slice none 0 0, .int .i64 0, .slice none 0 0, .int .i64 0, .int .i64 0]) := (show OB _ _ _ by have h := OB.new (w.alloc (.cells x.ar 37)) #[.slice none 0 0, .int .i64 0, .slice none 0 0, .int .i64 0, .int .i64 0] 37; simpa using h)
 have HB : Hd (Bl w ((w.alloc (.cells x.ar 37)).alloc (.cells #[.slice none 0 0, .int .i64 0, .slice none 0 0, .int .i64 0, .int .i64 0] 37))) := bl_alloc (bl_a _) _
 have HC0 := iH (fun W (hb : Bl w W) => clone_own x.v W (h.1.upper (uB hb)))
 have HC1 := iH (fun W (hb : Bl w W) => termCopied x.t W (h.2.1.upper (uB hb)) h.2.2)
 clear h
 go_in
 go_upto_region 1 with fail
 generalize ((w.alloc _).alloc _) = W1 at *
 have HG : Hd (w.heap.size + 1 < W1.heap.size) := HO.o.1
 go_wp2_with fail
 refine wqd (fun w' => Bl w w' ∧ Box w' w.heap.size x.cl) ?_ fun hHeld => ?_
 · exact ⟨Below.drew HB.o, HX.o.below bdr⟩
 refine tqB 0 3 ?_
 refine tqB 1 4 (v := .slice x.v.a x.v.len x.v.cap) (hy := by intro w' hSw; have c0 := hSw.2.2 0 _ rfl; go_simp; (try with_reducible rfl)) ?_
 refine tqB 3 6 ?_
 refine ldq 4 7 Tryz.underlying35 (fun w' h => h.2.range 1 [.int .i64 x.t.t.k, .slice x.t.t.a x.t.t.len x.t.t.cap, .int .i64 x.t.t.n, .int .i64 x.t.t.s] rfl) ?_
 refine rqA 2 fun K hK => ?_
 go_simp
 refine (HC0.o _ hHeld.1).mono ?_
 rintro r w2 ⟨y1, rfl, hy, hc, he, hb2⟩
 have HBn := iH (bl_trans (Below.drew HB.o) hb2)
 have HXn := iH ((HX.o.below bdr).below hb2)
 have HOn := iH ((HO.o.below bdr).below hb2)
 have HZn : Hd (W1.heap.size ≤ w2.heap.size) := (show W1.heap.size ≤ _ from hb2.size)
 have HC : Hd (Cp W1.heap.size w2.heap.size (y1.fp)) := hc
 have HY1 : Hd (y1.own W1.heap.size w2) := hy
 have HE1 := iH he
 clear hy hc he hb2 hHeld HB HX HO
 have HB := HBn
 have HX := HXn
 have HO := HOn
 have HZ := HZn
 clear HBn HXn HOn HZn
 go_wp2_with fail
 refine hK.out _ _ ?_ fun hHeld => ?_
 · exact ⟨HB.o, HX.o⟩
 clear hK K
 try simp only [Act.put, sA, zA, cA]
 refine rqA 5 fun K hK => ?_
 go_simp
 refine (HC1.o _ hHeld.1).mono ?_
 rintro r w3 ⟨y2, rfl, hy, hc, he, hb2⟩
 have HBn := iH (bl_trans HB.o hb2)
 have HXn := iH (HX.o.below hb2)
 have HOn := iH (HO.o.below hb2)
 have HZn : Hd (W1.heap.size ≤ w3.heap.size) := Nat.le_trans HZ.o hb2.size
 have HCn : Hd (Cp W1.heap.size w3.heap.size (y1.fp ++ y2.fp)) := HC.o.app hc HZ.o hb2.size
 have HY1n := iH (HY1.o.upper (uB hb2))
 have HY2 : Hd (y2.own W1.heap.size w3) := hy.base HZ.o
 have HE2 := iH he
 clear hy hc he hb2 hHeld HB HX HO HZ HC HY1
 have HB := HBn
 have HX := HXn
 have HO := HOn
 have HZ := HZn
 have HC := HCn
 have HY1 := HY1n
 clear HBn HXn HOn HZn HCn HY1n
 go_wp2_with fail
 refine hK.out _ _ ?_ fun hHeld => ?_
 · exact ⟨HB.o, HX.o⟩
 clear hK K
 try simp only [Act.put, sA, zA, cA]
 refine tqB 6 9 (v := .agg #[.slice y1.a y1.len y1.cap, .int .i64 y2.t.k, .slice y2.t.a y2.t.len y2.t.cap, .int .i64 y2.t.n, .int .i64 y2.t.s]) ?_
 have st : w3.there (w.heap.size + 1) 0 5 := HO.o.there 0 5 (by simp)
 have on : (#[.slice y1.a y1.len y1.cap, .int .i64 y2.t.k, .slice y2.t.a y2.t.len y2.t.cap, .int .i64 y2.t.n, .int .i64 y2.t.s] : Array Value).all (·.oneCell') = true := all_oneCell_toArray (cs := [.slice y1.a y1.len y1.cap, .int .i64 y2.t.k, .slice y2.t.a y2.t.len y2.t.cap, .int .i64 y2.t.n, .int .i64 y2.t.s]) (by simp [Value.oneCell'])
 have hrd : (w3.setCells (w.heap.size + 1) 0 [.slice y1.a y1.len y1.cap, .int .i64 y2.t.k, .slice y2.t.a y2.t.len y2.t.cap, .int .i64 y2.t.n, .int .i64 y2.t.s]).rangeAt (w.heap.size + 1) 0 [.slice y1.a y1.len y1.cap, .int .i64 y2.t.k, .slice y2.t.a y2.t.len y2.t.cap, .int .i64 y2.t.n, .int .i64 y2.t.s] := World.rangeAt_setCells_same _ _ _ _ st
 have hbf := iH (below_sets (w0 := w) (w.heap.size + 1) (by omega) [.slice y1.a y1.len y1.cap, .int .i64 y2.t.k, .slice y2.t.a y2.t.len y2.t.cap, .int .i64 y2.t.n, .int .i64 y2.t.s] 0 w3 HB.o)
 have hxf := iH (HX.o.upper (but_sets (w.heap.size + 1) [.slice y1.a y1.len y1.cap, .int .i64 y2.t.k, .slice y2.t.a y2.t.len y2.t.cap, .int .i64 y2.t.n, .int .i64 y2.t.s] 0 w3) (by omega))
 have hsf : Hd ((w3.setCells (w.heap.size + 1) 0 [.slice y1.a y1.len y1.cap, .int .i64 y2.t.k, .slice y2.t.a y2.t.len y2.t.cap, .int .i64 y2.t.n, .int .i64 y2.t.s]).heap.size = w3.heap.size) := (but_sets (w.heap.size + 1) [.slice y1.a y1.len y1.cap, .int .i64 y2.t.k, .slice y2.t.a y2.t.len y2.t.cap, .int .i64 y2.t.n, .int .i64 y2.t.s] 0 w3).size
 have HY1f := iH ((HY1.o.upper ((upper_sets (w.heap.size + 1) [.slice y1.a y1.len y1.cap, .int .i64 y2.t.k, .slice y2.t.a y2.t.len y2.t.cap, .int .i64 y2.t.n, .int .i64 y2.t.s] 0 w3).mono HG.o)).base (by have := HG.o; omega : w.heap.size ≤ W1.heap.size))
 have HY2f := iH ((HY2.o.upper ((upper_sets (w.heap.size + 1) [.slice y1.a y1.len y1.cap, .int .i64 y2.t.k, .slice y2.t.a y2.t.len y2.t.cap, .int .i64 y2.t.n, .int .i64 y2.t.s] 0 w3).mono HG.o)).base (by have := HG.o; omega : w.heap.size ≤ W1.heap.size))
 refine rqA 7 fun K hK => ?_
 refine step_storeV 37 (w.heap.size + 1) 0 #[.slice y1.a y1.len y1.cap, .int .i64 y2.t.k, .slice y2.t.a y2.t.len y2.t.cap, .int .i64 y2.t.n, .int .i64 y2.t.s] st on ?_
 refine hK.out _ _ ?_ fun hHeld => ?_
 · exact ⟨hbf.o, hxf.o⟩
 clear hK K st on hHeld
 try simp only [Act.put]
 generalize w3.setCells (w.heap.size + 1) 0 [.slice y1.a y1.len y1.cap, .int .i64 y2.t.k, .slice y2.t.a y2.t.len y2.t.cap, .int .i64 y2.t.n, .int .i64 y2.t.s] = W5 at *
 refine wpAnyH_done (by kernel_rfl) ?_ _
 go_wp2
 try simp only [Exit.inBlock, Exit.then]
 refine bodyPost_ret (v := .agg #[.slice y1.a y1.len y1.cap, .int .i64 y2.t.k, .slice y2.t.a y2.t.len y2.t.cap, .int .i64 y2.t.n, .int .i64 y2.t.s]) ?hr rfl ?hp
 case hr => exact results_cell rfl rfl (run_loadVar_mid (P := Tryz.prog) _ (w.heap.size + 1) 0 37 [.slice y1.a y1.len y1.cap, .int .i64 y2.t.k, .slice y2.t.a y2.t.len y2.t.cap, .int .i64 y2.t.n, .int .i64 y2.t.s] _ hrd Tryz.underlying37 rfl (by kernel_rfl))
 have HCf : Cp w.heap.size W5.heap.size (y1.fp ++ y2.fp) := HC.o.mono (by have := HG.o; omega) (by rw [hsf.o]; exact nR)
 exact ⟨⟨y1, y2⟩, rfl, ⟨⟨HY1f.o.1, HY2f.o.1⟩, HY1f.o.2, HY2f.o.2⟩, HCf, ⟨HE1.o.symm, HE2.o⟩, hbf.o⟩
theorem patCopied (x : PB) (w : World) (h : x.lies 0 w) : Calls Tryz.prog 90 #[.agg x.ar] w fun e w' => ∃ y : PB, e = .returned (.agg y.ar) ∧ y.own w.heap.size w' ∧ Cp w.heap.size w'.heap.size y.fp ∧ x.same y ∧ Bl w w' := by
 have HX := iH ((Box.new w x.ar 39 (0, 0)).below (bl_a (.cells zPa 39)))
 have HO : Hd (OB ((w.alloc (.cells x.ar 39)).alloc (.cells zPa 39)) (w.heap.size + 1) zPl) := (show OB _ _ _ by have h := OB.new (w.alloc (.cells x.ar 39)) zPa 39; simpa using h)
 have HB : Hd (Bl w ((w.alloc (.cells x.ar 39)).alloc (.cells zPa 39))) := bl_alloc (bl_a _) _
 have HC0 := iH (fun W (hb : Bl w W) => itemCopied x.s W (h.1.upper (uB hb)))
 have HC1 := iH (fun W (hb : Bl w W) => itemCopied x.p W (h.2.1.upper (uB hb)))
 have HC2 := iH (fun W (hb : Bl w W) => itemCopied x.o W (h.2.2.upper (uB hb)))
 clear h
 go_in
 go_upto_region 1 with fail
 generalize ((w.alloc _).alloc _) = W1 at *
 have HG : Hd (w.heap.size + 1 < W1.heap.size) := HO.o.1
 go_wp2_with fail
 refine wqd (fun w' => Bl w w' ∧ Box w' w.heap.size x.cl) ?_ fun hHeld => ?_
 · exact ⟨Below.drew HB.o, HX.o.below bdr⟩
 refine tqB 0 3 ?_
 refine ldq 1 4 Tryz.underlying37 (fun w' h => h.2.range 0 x.s.cl rfl) ?_
 refine tqB 3 6 ?_
 refine ldq 4 7 Tryz.underlying37 (fun w' h => h.2.range 5 x.p.cl rfl) ?_
 refine tqB 6 9 ?_
 refine ldq 7 10 Tryz.underlying37 (fun w' h => h.2.range 10 x.o.cl rfl) ?_
 refine rqA 2 fun K hK => ?_
 go_simp
 refine (HC0.o _ hHeld.1).mono ?_
 rintro r w2 ⟨y1, rfl, hy, hc, he, hb2⟩
 have HBn := iH (bl_trans (Below.drew HB.o) hb2)
 have HXn := iH ((HX.o.below bdr).below hb2)
 have HOn := iH ((HO.o.below bdr).below hb2)
 have HZn : Hd (W1.heap.size ≤ w2.heap.size) := (show W1.heap.size ≤ _ from hb2.size)
 have HC : Hd (Cp W1.heap.size w2.heap.size (y1.fp)) := hc
 have HY1 : Hd (y1.own W1.heap.size w2) := hy
 have HE1 := iH he
 clear hy hc he hb2 hHeld HB HX HO
 have HB := HBn
 have HX := HXn
 have HO := HOn
 have HZ := HZn
 clear HBn HXn HOn HZn
 go_wp2_with fail
 refine hK.out _ _ ?_ fun hHeld => ?_
 · exact ⟨HB.o, HX.o⟩
 clear hK K
 try simp only [Act.put, sA, zA, cA]
 refine rqA 5 fun K hK => ?_
 go_simp
 refine (HC1.o _ hHeld.1).mono ?_
 rintro r w3 ⟨y2, rfl, hy, hc, he, hb2⟩
 have HBn := iH (bl_trans HB.o hb2)
 have HXn := iH (HX.o.below hb2)
 have HOn := iH (HO.o.below hb2)
 have HZn : Hd (W1.heap.size ≤ w3.heap.size) := Nat.le_trans HZ.o hb2.size
 have HCn : Hd (Cp W1.heap.size w3.heap.size (y1.fp ++ y2.fp)) := HC.o.app hc HZ.o hb2.size
 have HY1n := iH (HY1.o.upper (uB hb2))
 have HY2 : Hd (y2.own W1.heap.size w3) := hy.base HZ.o
 have HE2 := iH he
 clear hy hc he hb2 hHeld HB HX HO HZ HC HY1
 have HB := HBn
 have HX := HXn
 have HO := HOn
 have HZ := HZn
 have HC := HCn
 have HY1 := HY1n
 clear HBn HXn HOn HZn HCn HY1n
 go_wp2_with fail
 refine hK.out _ _ ?_ fun hHeld => ?_
 · exact ⟨HB.o, HX.o⟩
 clear hK K
 try simp only [Act.put, sA, zA, cA]
 refine rqA 8 fun K hK => ?_
 go_simp
 refine (HC2.o _ hHeld.1).mono ?_
 rintro r w4 ⟨y3, rfl, hy, hc, he, hb2⟩
 have HBn := iH (bl_trans HB.o hb2)
 have HXn := iH (HX.o.below hb2)
 have HOn := iH (HO.o.below hb2)
 have HZn : Hd (W1.heap.size ≤ w4.heap.size) := Nat.le_trans HZ.o hb2.size
 have HCn : Hd (Cp W1.heap.size w4.heap.size (y1.fp ++ y2.fp ++ y3.fp)) := HC.o.app hc HZ.o hb2.size
 have HY1n := iH (HY1.o.upper (uB hb2))
 have HY2n := iH (HY2.o.upper (uB hb2))
 have HY3 : Hd (y3.own W1.heap.size w4) := hy.base HZ.o
 have HE3 := iH he
 clear hy hc he hb2 hHeld HB HX HO HZ HC HY1 HY2
 have HB := HBn
 have HX := HXn
 have HO := HOn
 have HZ := HZn
 have HC := HCn
 have HY1 := HY1n
 have HY2 := HY2n
 clear HBn HXn HOn HZn HCn HY1n HY2n
 go_wp2_with fail
 refine hK.out _ _ ?_ fun hHeld => ?_
 · exact ⟨HB.o, HX.o⟩
 clear hK K
 try simp only [Act.put, sA, zA, cA]
 refine tqB 9 12 (v := .agg (pA y1 y2 y3)) ?_
 have st : w4.there (w.heap.size + 1) 0 15 := HO.o.there 0 15 (by simp)
 have on : ((pA y1 y2 y3) : Array Value).all (·.oneCell') = true := all_oneCell_toArray (cs := (pL y1 y2 y3)) (by simp [Value.oneCell'])
 have hrd : (w4.setCells (w.heap.size + 1) 0 (pL y1 y2 y3)).rangeAt (w.heap.size + 1) 0 (pL y1 y2 y3) := World.rangeAt_setCells_same _ _ _ _ st
 have hbf := iH (below_sets (w0 := w) (w.heap.size + 1) (by omega) (pL y1 y2 y3) 0 w4 HB.o)
 have hxf := iH (HX.o.upper (but_sets (w.heap.size + 1) (pL y1 y2 y3) 0 w4) (by omega))
 have hsf : Hd ((w4.setCells (w.heap.size + 1) 0 (pL y1 y2 y3)).heap.size = w4.heap.size) := (but_sets (w.heap.size + 1) (pL y1 y2 y3) 0 w4).size
 have HY1f := iH ((HY1.o.upper ((upper_sets (w.heap.size + 1) (pL y1 y2 y3) 0 w4).mono HG.o)).base (by have := HG.o; omega : w.heap.size ≤ W1.heap.size))
 have HY2f := iH ((HY2.o.upper ((upper_sets (w.heap.size + 1) (pL y1 y2 y3) 0 w4).mono HG.o)).base (by have := HG.o; omega : w.heap.size ≤ W1.heap.size))
 have HY3f := iH ((HY3.o.upper ((upper_sets (w.heap.size + 1) (pL y1 y2 y3) 0 w4).mono HG.o)).base (by have := HG.o; omega : w.heap.size ≤ W1.heap.size))
 refine rqA 10 fun K hK => ?_
 refine step_storeV 39 (w.heap.size + 1) 0 (pA y1 y2 y3) st on ?_
 refine hK.out _ _ ?_ fun hHeld => ?_
 · exact ⟨hbf.o, hxf.o⟩
 clear hK K st on hHeld
 try simp only [Act.put]
 generalize w4.setCells (w.heap.size + 1) 0 (pL y1 y2 y3) = W5 at *
 refine wpAnyH_done (by kernel_rfl) ?_ _
 go_wp2
 try simp only [Exit.inBlock, Exit.then]
 refine bodyPost_ret (v := .agg (pA y1 y2 y3)) ?hr rfl ?hp
 case hr => exact results_cell rfl rfl (run_loadVar_mid (P := Tryz.prog) _ (w.heap.size + 1) 0 39 (pL y1 y2 y3) _ hrd Tryz.underlying39 rfl (by kernel_rfl))
 have HCf : Cp w.heap.size W5.heap.size (y1.fp ++ y2.fp ++ y3.fp) := HC.o.mono (by have := HG.o; omega) (by rw [hsf.o]; exact nR)
 exact ⟨⟨y1, y2, y3⟩, rfl, ⟨HY1f.o, HY2f.o, HY3f.o⟩, HCf, ⟨HE1.o, HE2.o, HE3.o⟩, hbf.o⟩
end Go.Proofs.YtoloadogihbdeaaGreat
