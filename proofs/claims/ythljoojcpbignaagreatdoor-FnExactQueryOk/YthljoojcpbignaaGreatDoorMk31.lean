import Derived.Test.YthljoojcpbignaaGreatDoorMk30
import Derived.Deep.CutRange
import Derived.Test.YthljoojcpbignaaGreatDoorMk01
namespace Go.Proofs.YthljoojcpbignaaGreatDoor
/- UtW -/
open Go.RowKit Go.Deep
set_option maxHeartbeats 40000000
set_option maxRecDepth 100000
def tsS (x : QY) (k : Nat) : List Int := catN k (fun i => selTx (x.sel i))
def tsG (x : QY) (k : Nat) : List Int := catN k (fun i => vTx (x.grp i).b)
def tsK (x : QY) (k : Nat) : List Int := catN k (fun i => keyTx (x.key i))
def qF (x : QY) : List Value := [.bool false, .bool x.dis, .slice x.sa x.sn x.sc, .slice x.ba x.bn x.bc, .slice x.ga x.gn x.gc, .slice x.oa x.on x.oc, .int .i64 x.lim, .int .i64 x.off]
def sF (s : SE) : List Value := [.int .i64 s.fn, .slice s.of.a s.of.len s.of.cap, .slice s.v.a s.v.len s.v.cap]
structure TZ (w : World) (p : Nat) (sc : List Value) (v : Value) (bs : List Int) (cs : List Value) (W : World) : Prop where
 tx : TX w v bs cs W
 bx : Box W p sc
 ne : v.ownBlock ≠ some p
theorem TZ.say {w : World} {p : Nat} {sc : List Value} {v v' : Value} {bs bs' : List Int} {cs : List Value} {W W' : World} (h : TZ w p sc v bs cs W) (hO : Own8 W' (w.heap.size + 1) v' bs'.length bs') (hK : Kp v W v' W') : TZ w p sc v' bs' cs W' :=
 ⟨(h.tx.say hO hK).tx, hK.box h.bx h.ne, fun e => by
   rcases hK.blk _ e with e | e
   · exact h.ne e
   have := h.bx.1
   omega⟩
theorem TZ.below {w : World} {p : Nat} {sc : List Value} {v : Value} {bs : List Int} {cs : List Value} {W W' : World} (h : TZ w p sc v bs cs W) (hb : Bl W W') : TZ w p sc v bs cs W' := ⟨h.tx.below hb, h.bx.below hb, h.ne⟩
theorem TZ.new {w : World} {v : Value} {bs : List Int} {cs : List Value} {W : World} (h : TX w v bs cs W) (sc : Array Value) (t : TypeId) : TZ w W.heap.size sc.toList v bs cs (W.alloc (.cells sc t)) :=
 ⟨h.below (bl_a _), Box.new W sc t (0, 0), fun e => by have := (h.own.low _ e).2; omega⟩
theorem digits_most {n : Nat} (h : n ≤ 999) : 1 ≤ (digitsL n).length ∧ (digitsL n).length ≤ 20 := ⟨digitsL_pos n, Nat.le_trans (digitsL_len 2 n (show n < 1000 by omega)) (by omega)⟩
structure Src8 (W : World) (v : Value) (g : Nat) (bs : List Int) : Prop where
 lt : g < W.heap.size
 ne : v.ownBlock ≠ some g
 at' : ∀ j u, (bs.map (Value.int .u8))[j]? = some u → W.cell? ((⟨g, 0, none⟩ : Addr).add j) = some u
theorem add_off (g j : Nat) : (⟨g, 0, none⟩ : Addr).add j = ⟨g, j, none⟩ := by by_cases h0 : j = 0 <;> simp [Addr.add, h0]
theorem Src8.kp {W W' : World} {v v' : Value} {g : Nat} {bs : List Int} (h : Src8 W v g bs) (hK : Kp v W v' W') : Src8 W' v' g bs :=
 ⟨Nat.lt_of_lt_of_le h.lt hK.size, fun e => by
   rcases hK.blk _ e with e | e
   · exact h.ne e
   · have := h.lt
     omega, fun j u hu => by
   have h1 := h.at' j u hu
   rw [add_off] at h1 ⊢
   exact (World.cell?_of_block (w := W) (a := ⟨g, j, none⟩) (hK.block g h.lt h.ne)).trans h1⟩
theorem Src8.below {W W' : World} {v : Value} {g : Nat} {bs : List Int} (h : Src8 W v g bs) (hb : Bl W W') : Src8 W' v g bs := h.kp (Kp.of_below hb)
theorem Row8.src {w w' : World} {B g n cap : Nat} {v : Value} {L bs : List Int} (h : Row8 w' w.heap.size g n cap L) (hO : Own8 w B v bs.length bs) : Src8 w' v g L :=
 ⟨h.2, fun e => by
   have h1 := (hO.2 _ e).2
   rcases h.1.2 with ⟨h2, _⟩ | ⟨g', _, _, h2, h3, _⟩
   · cases h2
   cases h2
   omega, h.news⟩
theorem step_app8k {ops : Array Oper} {o : Oper} {a : Act} {K : Act → World → Prop} {Q : Exit → Act → World → Prop} {w : World} {E : Prop} (hgd : o.guard = none) (d : Nat) (hd : o.dst = some d) (s x : Operand)
   (ho : o.op = .call { callee := .builtin .append, args := #[s, x], argTypes := #[42, 42] })
   (B : Nat) (v : Value) (us : List Int) (hs : a.eval s = v) (HO : Hid (Own8 w B v us.length us))
   (g0 m c : Nat) (bs : List Int) (hx : a.eval x = .slice (some ⟨g0, 0, none⟩) m c) (hl : bs.length = m) (HN : Hid (Src8 w v g0 bs)) (hm : 0 < m) (hle : us.length + m ≤ 1000000) (hB : B ≤ w.heap.size)
   (h : ∀ v' w', Hid (Own8 w' B v' (us ++ bs).length (us ++ bs)) → Hid (Kp v w v' w') → K (a.put (some d) v') w') :
   if Region.wanted o (yielded ops a.tmps) = true then Oper.wp Tryz.prog o a w K Q else E := by
 obtain ⟨i0, hi0, hzz⟩ := Option.map_eq_some_iff.1 Tryz.info5
 simp only [Prod.mk.injEq] at hzz
 obtain ⟨hi2, hi1, hi3⟩ := hzz
 subst hl
 refine step_append_lies w hgd s x 42 ho B 5 i0 (.int .u8 0) 1 1 Tryz.underlying42 hi0 hi2 hi1 hi3 rfl (by omega) v us.length (us.map (Value.int .u8)) hs HO.out.1 ⟨g0, 0, none⟩ bs.length c (bs.map (Value.int .u8)) hx (by simp) HN.out.at' (oneCell_map bs) hm (by unfold maxLen; omega) (by omega) hB _ rfl ?_
 intro g cap w' hown hgr hat hlt
 rw [hd]
 refine h _ w' ?_ (show Kp _ _ _ _ from ⟨hgr.os, hgr.tape, hgr.output, hgr.size, fun b hb hn => hgr.block b hb (fun e => hn e.symm), fun g' hg' => ?_⟩)
 · show Own8 _ _ _ _ _
   rw [List.length_append]
   exact (Row8.grown hown rfl hlt).own8
 have : g = g' := by simpa [Value.ownBlock] using hg'
 subst this
 rcases hat with e | e
 · exact .inl e
 exact .inr (by rw [e]; exact Nat.le_refl _)
theorem text_sel (x : QY) (w : World) (hx : x.lies 0 w) (hs : SayQ x) (ha : x.ask = false) :
   Calls Tryz.prog 41 #[.agg #[.bool x.ask, .bool x.dis, .slice x.sa x.sn x.sc, .slice x.ba x.bn x.bc, .slice x.ga x.gn x.gc, .slice x.oa x.on x.oc, .int .i64 x.lim, .int .i64 x.off]] w (MadeT w (qTx x)) := by
 have HSG := hid (fun (v : Value) (bs : List Int) (W : World) (hO : OwnX W _ v bs) (hb : Bl w W) (hB : (w.heap.size + 1) ≤ W.heap.size) (hl : bs.length ≤ 10000) => sayGroup_core x.ba x.bc x.bn x.body 1 (w.heap.size + 1) w hx.b.2.2 hx.b.1 hx.b.2.1 hs.b.1 (Nat.le_succ _) (fun i hi => sayGroup_any (x.body i) 1 _ w (hx.b.2.1 i hi) (hs.b.1 i hi) (Nat.le_succ _)) v bs W (fun g hg => (hO.low g hg).1) (l4wordX v _ bs ⟨#[123]⟩ W hO hB (by decide) (by rw [show (ByteArray.mk #[123]).size = 1 from rfl]; omega)) hb hB (by have := hs.b.2; omega))
 have HX1 := hid (Box.new w #[.bool x.ask, .bool x.dis, .slice x.sa x.sn x.sc, .slice x.ba x.bn x.bc, .slice x.ga x.gn x.gc, .slice x.oa x.on x.oc, .int .i64 x.lim, .int .i64 x.off] 34 (0, 0))
 have HB1 : Hid (Bl w (w.alloc (.cells #[.bool x.ask, .bool x.dis, .slice x.sa x.sn x.sc, .slice x.ba x.bn x.bc, .slice x.ga x.gn x.gc, .slice x.oa x.on x.oc, .int .i64 x.lim, .int .i64 x.off] 34))) := bl_a _
 have HZ1 : Hid ((w.alloc (.cells #[.bool x.ask, .bool x.dis, .slice x.sa x.sn x.sc, .slice x.ba x.bn x.bc, .slice x.ga x.gn x.gc, .slice x.oa x.on x.oc, .int .i64 x.lim, .int .i64 x.off] 34)).heap.size = w.heap.size + 1) := (show _ = _ by simp)
 have HTX : Hid ([83, 69, 76, 69, 67, 84, 32] ++ disTx x ++ starTx x ++ tsS x x.sn ++ [87, 72, 69, 82, 69, 32] ++ gTx x.bn x.body ++ grpTx x ++ tsG x x.gn ++ ordTx x ++ tsK x x.on ++ limTx x ++ offTx x = qTx x) := (show _ = qTx x by unfold qTx; rw [if_neg (by simp [ha])]; unfold headTx tailTx tsS tsG tsK; simp only [List.append_assoc])
 have HLd := hid (dis_len x)
 have HLs := hid (star_len x)
 have HL1 : Hid (∀ k, k ≤ x.sn → (tsS x k).length ≤ 328) := fun k hk => sels_len hs hk
 have HLg := hid (gTx_len hs)
 have HLp := hid (grp_len x)
 have HL2 : Hid (∀ k, k ≤ x.gn → (tsG x k).length ≤ 56) := fun k hk => grps_len hs hk
 have HLo := hid (ord_len x)
 have HL3 : Hid (∀ k, k ≤ x.on → (tsK x k).length ≤ 64) := fun k hk => keys_len hs hk
 have HLl : Hid ((limTx x).length ≤ 27) := (show _ ≤ _ by unfold limTx; split; (have h1 := digits_most (n := x.lim.toNat) (by have := hs.lim; omega); simp only [numTx, List.length_append, List.length_cons, List.length_nil]; omega); simp)
 have HRS := hid hx.s.1
 have HSL : Hid (∀ i, i < x.sn → BsF 0 w (x.sel i).of ∧ BsF 0 w (x.sel i).v) := hx.s.2.1
 have HS8 := hid hs.s.1
 have HSN := hid hs.s.2
 have HRG := hid hx.g.1
 have HGL : Hid (∀ i, i < x.gn → BsF 0 w (x.grp i)) := hx.g.2.1
 have HG4 := hid hs.g.1
 have HGN := hid hs.g.2
 have HRO := hid hx.o.1
 have HOL : Hid (∀ i, i < x.on → BsF 0 w (x.key i).v) := hx.o.2.1
 have HO4 := hid hs.o.1
 have HON := hid hs.o.2
 have HNL : Hid (-1 ≤ x.lim ∧ x.lim ≤ 999 ∧ 0 ≤ x.off ∧ x.off ≤ 999) := ⟨hs.lim.1, hs.lim.2, hs.off.1, hs.off.2⟩
 rw [ha]
 rw [ha] at HX1 HB1 HZ1
 clear hx hs ha
 go_in
 go_upto_region 1 with fail
 generalize (w.alloc (.cells #[.bool false, .bool x.dis, .slice x.sa x.sn x.sc, .slice x.ba x.bn x.bc, .slice x.ga x.gn x.gc, .slice x.oa x.on x.oc, .int .i64 x.lim, .int .i64 x.off] 34)) = W1 at *
 have x0 := HX1.out.2 0 _ rfl
 have cv : (convert 42 42 (.slice (some ⟨W1.heap.size, 0, none⟩) 7 7)).run Tryz.prog (W1.alloc (.cells #[.int .u8 83, .int .u8 69, .int .u8 76, .int .u8 69, .int .u8 67, .int .u8 84, .int .u8 32] 5)) = .ok (.slice (some ⟨W1.heap.size, 0, none⟩) 7 7) (W1.alloc (.cells #[.int .u8 83, .int .u8 69, .int .u8 76, .int .u8 69, .int .u8 67, .int .u8 84, .int .u8 32] 5 (7, 8))) := conv_k W1 W1.heap.size rfl _ 7
 have HT0 : Hid (TX w (.slice (some ⟨W1.heap.size, 0, none⟩) 7 7) ([83, 69, 76, 69, 67, 84, 32]) [.bool false, .bool x.dis, .slice x.sa x.sn x.sc, .slice x.ba x.bn x.bc, .slice x.ga x.gn x.gc, .slice x.oa x.on x.oc, .int .i64 x.lim, .int .i64 x.off] (W1.alloc (.cells #[.int .u8 83, .int .u8 69, .int .u8 76, .int .u8 69, .int .u8 67, .int .u8 84, .int .u8 32] 5 (7, 8)))) := ⟨.inr (fullR_new W1 (w.heap.size + 1) [83, 69, 76, 69, 67, 84, 32] #[.int .u8 83, .int .u8 69, .int .u8 76, .int .u8 69, .int .u8 67, .int .u8 84, .int .u8 32] rfl 5 (7, 8) (by have := HZ1.out; omega)), HX1.out.below (bl_a _), bl_trans HB1.out (bl_a _), (show _ ≤ _ by have := HZ1.out; simp; omega)⟩
 go_upto_region 4 with fail
 clear cv x0 HX1 HB1
 generalize (W1.alloc (.cells #[.int .u8 83, .int .u8 69, .int .u8 76, .int .u8 69, .int .u8 67, .int .u8 84, .int .u8 32] 5 (7, 8))) = W2 at *
 obtain ⟨dd, hdd⟩ : ∃ dd, dd = x.dis := ⟨_, rfl⟩
 have HDD := hid hdd.symm
 have y1 : W2.cell? ⟨w.heap.size, 1, none⟩ = some (.bool dd) := by rw [hdd]; exact HT0.out.bx.2 1 _ rfl
 clear hdd
 go_upto_if 18 with fail
 go_cut [3] from 17 (fun s3 wx => ∃ v, v = s3 ∧ Hid (TX w v ([83, 69, 76, 69, 67, 84, 32] ++ disTx x) (qF x) wx))
 case first =>
   cases dd
   · have HTE : Hid (TX w (.slice (some ⟨W1.heap.size, 0, none⟩) 7 7) ([83, 69, 76, 69, 67, 84, 32] ++ disTx x) (qF x) W2) := HT0.out.to (by unfold disTx; rw [if_neg (by rw [HDD.out]; simp)]; simp)
     clear HT0 y1
     go_wp2_with fail
     go_meet
     case rel => exact ⟨_, rfl, HTE⟩
   have HDE := hid (show disTx x = _ by unfold disTx; rw [if_pos HDD.out])
   clear y1
   go_wp2_with fail
   refine (l4wordX _ (w.heap.size + 1) ([83, 69, 76, 69, 67, 84, 32]) ⟨#[68, 73, 83, 84, 73, 78, 67, 84]⟩ _ HT0.out.own HT0.out.lo (by decide) (by rw [show (ByteArray.mk #[68, 73, 83, 84, 73, 78, 67, 84]).size = 8 from rfl]; skip; (try simp only [List.length_cons, List.length_nil]); omega)).mono ?_
   rintro e z1 ⟨v1, rfl, hO1, hK1⟩
   have HTE : Hid (TX w v1 ([83, 69, 76, 69, 67, 84, 32] ++ disTx x) (qF x) z1) := (HT0.out.say hO1 hK1).tx.to (by rw [HDE.out]; rfl)
   clear hO1 hK1 HT0
   go_wp2_with fail
   go_meet
   case rel => exact ⟨_, rfl, HTE⟩
 obtain ⟨v1, rfl, HT1⟩ := hcut
 clear HT0 HZ1 y1 HDD
 have y2 := HT1.out.bx.2 2 _ rfl
 go_upto_if 24 with fail
 go_cut [3] from 21 (fun s3 wx => ∃ v, v = s3 ∧ Hid (TX w v ([83, 69, 76, 69, 67, 84, 32] ++ disTx x ++ starTx x) (qF x) wx))
 case first =>
   by_cases hz : x.sn = 0
   · have HDE := hid (show starTx x = _ by unfold starTx; rw [if_pos hz])
     have kz : ((x.sn : Int) == 0) = true := by simp [hz]
     clear hz
     go_wp2_with fail
     refine (l4wordX v1 (w.heap.size + 1) ([83, 69, 76, 69, 67, 84, 32] ++ disTx x) ⟨#[42]⟩ _ HT1.out.own HT1.out.lo (by decide) (by rw [show (ByteArray.mk #[42]).size = 1 from rfl]; have l0 := HLd.out; (try simp only [lA, lC, lN]); omega)).mono ?_
     rintro e z1 ⟨v2, rfl, hO1, hK1⟩
     have HTE : Hid (TX w v2 ([83, 69, 76, 69, 67, 84, 32] ++ disTx x ++ starTx x) (qF x) z1) := (HT1.out.say hO1 hK1).tx.to (by rw [HDE.out]; rfl)
     clear hO1 hK1 HT1 y2
     go_wp2_with fail
     go_meet
     case rel => exact ⟨_, rfl, HTE⟩
   have HTE : Hid (TX w v1 ([83, 69, 76, 69, 67, 84, 32] ++ disTx x ++ starTx x) (qF x) wc) := HT1.out.to (by unfold starTx; rw [if_neg hz]; simp)
   have kz : ((x.sn : Int) == 0) = false := by simp [hz]
   clear hz HT1
   go_wp2_with fail
   go_meet
   case rel => exact ⟨_, rfl, HTE⟩
 obtain ⟨v2, rfl, HT2⟩ := hcut
 clear HT1 y2
 obtain ⟨U2, hU2⟩ : ∃ U2, U2 = [83, 69, 76, 69, 67, 84, 32] ++ disTx x ++ starTx x := ⟨_, rfl⟩
 have HLU2 : Hid (U2.length ≤ 18) := (show _ ≤ _ by have l0 := HLd.out; have l1 := HLs.out; rw [hU2]; simp only [lA, lC, lN]; omega)
 rw [← hU2] at HT2 HTX
 clear hU2 HLd HLs
 go_wp2_with fail
 go_loopw [3, 4] (fun b i wr => ∃ (k : Nat) (v' : Value), k ≤ x.sn ∧ v' = b ∧ i = .int .i64 k ∧ Hid (TX w v' (U2 ++ tsS x k) (qF x) wr)) (fun _ i _ => x.sn - (intOf i).toNat)
 case atStart => exact ⟨0, v2, Nat.zero_le _, rfl, rfl, HT2.out.to (by show _ = U2 ++ []; rw [List.append_nil])⟩
 clear HT2
 obtain ⟨k, v', hk, rfl, rfl, HTr⟩ := hrel
 have y2 := HTr.out.bx.2 2 _ rfl
 by_cases hlk : k < x.sn
 · have hlkz : (k : Int) < (x.sn : Int) := by omega
   obtain ⟨b, off, hsa, _, hlt, hck⟩ := HRS.out.resolve_left (by omega)
   rw [hsa] at y2
   have hcx : wr.rangeAt b (off + k * 3) (x.sel k).cl := fun c u hu => (HTr.out.bl.cell (p := ⟨b, off + k * 3 + c, none⟩) hlt).trans (hck k hlk c u hu)
   have HZ0 : Hid (TZ w wr.heap.size (sF (x.sel k)) v' (U2 ++ tsS x k) (qF x) (wr.alloc (.cells (x.sel k).ar 105))) := TZ.new HTr.out _ 105
   have HSU : Hid (tsS x (k + 1) = tsS x k ++ selTx (x.sel k)) := rfl
   have HVX := hid (HSL.out k hlk)
   have HNV := hid ((HSN.out k hlk).1)
   have hlk2 : k < 8 := by have := HS8.out; omega
   clear hsa hck
   by_cases h0 : (x.sel k).fn = 0
   · have k0 : ((x.sel k).fn == 0) = true := by simp [h0]
     have HSE := hid (show selTx _ = _ by unfold selTx; rw [if_pos h0])
     clear h0
     go_wp2_with (with_reducible refine wpq_at ?_; refine wpList_load_mid rfl 105 _ rfl _ _ rfl (x.sel k).cl _ hcx Tryz.underlying105 rfl (by kernel_rfl) ?_; try simp only [Act.put, sA, zA, cA])
     clear hcx
     refine (l4sayVarX v' (w.heap.size + 1) (U2 ++ tsS x k) (x.sel k).v w _ HZ0.out.tx.own HVX.out.2 HZ0.out.tx.bl (Nat.le_succ _) HZ0.out.tx.lo (name_pos HNV.out) (by have q1 := name_len HNV.out; have q2 := (HVX.out.2).1.1; have l0 := HLU2.out; have l1 := HL1.out k hk; (try simp only [List.length_append]); omega)).mono ?_
     rintro e z1 ⟨v1, rfl, hO1, hK1⟩
     have HTE : Hid (TX w v1 (U2 ++ tsS x (k + 1)) (qF x) z1) := (HZ0.out.tx.say hO1 hK1).tx.to (by rw [HSU.out, HSE.out]; simp [vTx])
     clear hO1 hK1 HZ0 y2 HTr
     go_wp2_with fail
     go_roundw
     case rel => exact ⟨k + 1, v1, by omega, rfl, by go_num, HTE⟩
     case measure => simp [intOf]; omega
   have HNM : Hid (nameOk (x.sel k).of.b = true ∧ nameOk (x.sel k).v.b = true) := ⟨(HSN.out k hlk).2 h0, HNV.out⟩
   have k0 : ((x.sel k).fn == 0) = false := by simp [h0]
   by_cases h1 : (x.sel k).fn = 1
   · have k1 : ((x.sel k).fn == 1) = true := by simp [h1]
     have HSE := hid (show selTx _ = _ by unfold selTx; rw [if_neg h0, if_pos h1])
     clear h0 h1
     go_wp2_with (with_reducible refine wpq_at ?_; refine wpList_load_mid rfl 105 _ rfl _ _ rfl (x.sel k).cl _ hcx Tryz.underlying105 rfl (by kernel_rfl) ?_; try simp only [Act.put, sA, zA, cA])
     clear hcx HTr y2
     refine (l4wordX v' (w.heap.size + 1) (U2 ++ tsS x k) ⟨#[40]⟩ _ HZ0.out.tx.own HZ0.out.tx.lo (by decide) (by rw [show (ByteArray.mk #[40]).size = 1 from rfl]; have l0 := HLU2.out; have l1 := HL1.out k hk; (try simp only [List.length_append]); omega)).mono ?_
     rintro e z1 ⟨v1, rfl, hO1, hK1⟩
     have HZ1 : Hid (TZ w wr.heap.size (sF (x.sel k)) v1 (U2 ++ tsS x k ++ [40, 32]) (qF x) z1) := HZ0.out.say hO1 hK1
     clear hO1 hK1
     go_wp2_with fail
     refine (l4wordX v1 (w.heap.size + 1) (U2 ++ tsS x k ++ [40, 32]) ⟨#[67, 79, 85, 78, 84]⟩ _ HZ1.out.tx.own HZ1.out.tx.lo (by decide) (by rw [show (ByteArray.mk #[67, 79, 85, 78, 84]).size = 5 from rfl]; have l0 := HLU2.out; have l1 := HL1.out k hk; (try simp only [lA, lC, lN]); omega)).mono ?_
     rintro e z2 ⟨v2, rfl, hO2, hK2⟩
     have HZ2 : Hid (TZ w wr.heap.size (sF (x.sel k)) v2 (U2 ++ tsS x k ++ [40, 32] ++ [67, 79, 85, 78, 84, 32]) (qF x) z2) := HZ1.out.say hO2 hK2
     clear hO2 hK2
     have HZ3 := hid (HZ2.out.below bdr)
     clear HZ0 HZ1
     go_wp2_with fail
     refine wp_region_held_drew (S := fun w' => Box w' wr.heap.size (sF (x.sel k))) (by kernel_rfl) ?_ (fun hHeld => ?_)
     · exact HZ3.out.bx
     refine tkB 0 55 ?_
     refine tkB 1 56 ?_
     refine tkA 2 57 (v := ?v3) ?y3 ?_
     case y3 => (intro w' hSw; have q1 := hSw.2 1 _ rfl; go_simp; (try with_reducible rfl))
     refine tkB 5 60 ?_
     refine tkA 6 61 (v := ?v5) ?y5 ?_
     case y5 => (intro w' hSw; have q1 := hSw.2 2 _ rfl; go_simp; (try with_reducible rfl))
     try simp only [Act.put, sA, zA, cA]
     refine rdA 3 fun K hK => ?_
     go_simp
     refine (l4sayVarX v2 (w.heap.size + 1) (U2 ++ tsS x k ++ [40, 32] ++ [67, 79, 85, 78, 84, 32]) (x.sel k).of w _ HZ3.out.tx.own HVX.out.1 HZ3.out.tx.bl (Nat.le_succ _) HZ3.out.tx.lo (name_pos HNM.out.1) (by have q1 := name_len HNM.out.1; have q2 := (HVX.out.1).1.1; have l0 := HLU2.out; have l1 := HL1.out k hk; (try simp only [lA, lC, lN]); omega)).mono ?_
     rintro e z4 ⟨v4, rfl, hO4, hK4⟩
     have HZ4 : Hid (TZ w wr.heap.size (sF (x.sel k)) v4 (U2 ++ tsS x k ++ [40, 32] ++ [67, 79, 85, 78, 84, 32] ++ vTx (x.sel k).of.b) (qF x) z4) := HZ3.out.say hO4 hK4
     clear hO4 hK4
     go_wp2_with fail
     refine hK.out _ _ ?_ (fun hHeld => ?_)
     · exact HZ4.out.bx
     clear hK K
     try simp only [Act.put, sA, zA, cA]
     refine rdA 4 fun K hK => ?_
     go_simp
     refine (l4wordX v4 (w.heap.size + 1) (U2 ++ tsS x k ++ [40, 32] ++ [67, 79, 85, 78, 84, 32] ++ vTx (x.sel k).of.b) ⟨#[65, 83]⟩ _ HZ4.out.tx.own HZ4.out.tx.lo (by decide) (by rw [show (ByteArray.mk #[65, 83]).size = 2 from rfl]; have l0 := HLU2.out; have l1 := HL1.out k hk; have q1 := vTx_len HNM.out.1; (try simp only [lA, lC, lN]); omega)).mono ?_
     rintro e z5 ⟨v5, rfl, hO5, hK5⟩
     have HZ5 : Hid (TZ w wr.heap.size (sF (x.sel k)) v5 (U2 ++ tsS x k ++ [40, 32] ++ [67, 79, 85, 78, 84, 32] ++ vTx (x.sel k).of.b ++ [65, 83, 32]) (qF x) z5) := HZ4.out.say hO5 hK5
     clear hO5 hK5
     go_wp2_with fail
     refine hK.out _ _ ?_ (fun hHeld => ?_)
     · exact HZ5.out.bx
     clear hK K
     try simp only [Act.put, sA, zA, cA]
     refine rdA 7 fun K hK => ?_
     go_simp
     refine (l4sayVarX v5 (w.heap.size + 1) (U2 ++ tsS x k ++ [40, 32] ++ [67, 79, 85, 78, 84, 32] ++ vTx (x.sel k).of.b ++ [65, 83, 32]) (x.sel k).v w _ HZ5.out.tx.own HVX.out.2 HZ5.out.tx.bl (Nat.le_succ _) HZ5.out.tx.lo (name_pos HNM.out.2) (by have q1 := name_len HNM.out.2; have q2 := (HVX.out.2).1.1; have l0 := HLU2.out; have l1 := HL1.out k hk; have q3 := vTx_len HNM.out.1; (try simp only [lA, lC, lN]); omega)).mono ?_
     rintro e z6 ⟨v6, rfl, hO6, hK6⟩
     have HZ6 : Hid (TZ w wr.heap.size (sF (x.sel k)) v6 (U2 ++ tsS x k ++ [40, 32] ++ [67, 79, 85, 78, 84, 32] ++ vTx (x.sel k).of.b ++ [65, 83, 32] ++ vTx (x.sel k).v.b) (qF x) z6) := HZ5.out.say hO6 hK6
     clear hO6 hK6
     go_wp2_with fail
     refine hK.out _ _ ?_ (fun hHeld => ?_)
     · exact HZ6.out.bx
     clear hK K
     try simp only [Act.put, sA, zA, cA]
     refine rdA 8 fun K hK => ?_
     go_simp
     refine (l4wordX v6 (w.heap.size + 1) (U2 ++ tsS x k ++ [40, 32] ++ [67, 79, 85, 78, 84, 32] ++ vTx (x.sel k).of.b ++ [65, 83, 32] ++ vTx (x.sel k).v.b) ⟨#[41]⟩ _ HZ6.out.tx.own HZ6.out.tx.lo (by decide) (by rw [show (ByteArray.mk #[41]).size = 1 from rfl]; have l0 := HLU2.out; have l1 := HL1.out k hk; have q1 := vTx_len HNM.out.1; have q2 := vTx_len HNM.out.2; (try simp only [lA, lC, lN]); omega)).mono ?_
     rintro e z7 ⟨v7, rfl, hO7, hK7⟩
     have HZ7 : Hid (TZ w wr.heap.size (sF (x.sel k)) v7 (U2 ++ tsS x k ++ [40, 32] ++ [67, 79, 85, 78, 84, 32] ++ vTx (x.sel k).of.b ++ [65, 83, 32] ++ vTx (x.sel k).v.b ++ [41, 32]) (qF x) z7) := HZ6.out.say hO7 hK7
     clear hO7 hK7
     go_wp2_with fail
     refine hK.out _ _ ?_ (fun hHeld => ?_)
     · exact HZ7.out.bx
     clear hK K
     refine tkB 9 3 ?_
     refine wpAnyH_done (by kernel_rfl) ?_ _
     have HTE : Hid (TX w v7 (U2 ++ tsS x (k + 1)) (qF x) z7) := HZ7.out.tx.to (by rw [HSU.out, HSE.out]; simp)
     clear hHeld HZ3 HZ4 HZ5 HZ6 HZ7
     go_wp2_with fail
     go_roundw
     case rel => exact ⟨k + 1, v7, by omega, rfl, by go_num, HTE⟩
     case measure => simp [intOf]; omega
   have k1 : ((x.sel k).fn == 1) = false := by simp [h1]
   have HSE := hid (show selTx _ = _ by unfold selTx; rw [if_neg h0, if_neg h1])
   clear h0 h1
   go_wp2_with (with_reducible refine wpq_at ?_; refine wpList_load_mid rfl 105 _ rfl _ _ rfl (x.sel k).cl _ hcx Tryz.underlying105 rfl (by kernel_rfl) ?_; try simp only [Act.put, sA, zA, cA])
   clear hcx HTr y2
   refine (l4wordX v' (w.heap.size + 1) (U2 ++ tsS x k) ⟨#[40]⟩ _ HZ0.out.tx.own HZ0.out.tx.lo (by decide) (by rw [show (ByteArray.mk #[40]).size = 1 from rfl]; have l0 := HLU2.out; have l1 := HL1.out k hk; (try simp only [List.length_append]); omega)).mono ?_
   rintro e z1 ⟨v1, rfl, hO1, hK1⟩
   have HZ1 : Hid (TZ w wr.heap.size (sF (x.sel k)) v1 (U2 ++ tsS x k ++ [40, 32]) (qF x) z1) := HZ0.out.say hO1 hK1
   clear hO1 hK1
   go_wp2_with fail
   refine (l4wordX v1 (w.heap.size + 1) (U2 ++ tsS x k ++ [40, 32]) ⟨#[83, 85, 77]⟩ _ HZ1.out.tx.own HZ1.out.tx.lo (by decide) (by rw [show (ByteArray.mk #[83, 85, 77]).size = 3 from rfl]; have l0 := HLU2.out; have l1 := HL1.out k hk; (try simp only [lA, lC, lN]); omega)).mono ?_
   rintro e z2 ⟨v2, rfl, hO2, hK2⟩
   have HZ2 : Hid (TZ w wr.heap.size (sF (x.sel k)) v2 (U2 ++ tsS x k ++ [40, 32] ++ [83, 85, 77, 32]) (qF x) z2) := HZ1.out.say hO2 hK2
   clear hO2 hK2
   have HZ3 := hid (HZ2.out.below bdr)
   clear HZ0 HZ1
   go_wp2_with fail
   refine wp_region_held_drew (S := fun w' => Box w' wr.heap.size (sF (x.sel k))) (by kernel_rfl) ?_ (fun hHeld => ?_)
   · exact HZ3.out.bx
   refine tkB 0 55 ?_
   refine tkB 1 56 ?_
   refine tkA 2 57 (v := ?v9) ?y9 ?_
   case y9 => (intro w' hSw; have q1 := hSw.2 1 _ rfl; go_simp; (try with_reducible rfl))
   refine tkB 5 60 ?_
   refine tkA 6 61 (v := ?v11) ?y11 ?_
   case y11 => (intro w' hSw; have q1 := hSw.2 2 _ rfl; go_simp; (try with_reducible rfl))
   try simp only [Act.put, sA, zA, cA]
   refine rdA 3 fun K hK => ?_
   go_simp
   refine (l4sayVarX v2 (w.heap.size + 1) (U2 ++ tsS x k ++ [40, 32] ++ [83, 85, 77, 32]) (x.sel k).of w _ HZ3.out.tx.own HVX.out.1 HZ3.out.tx.bl (Nat.le_succ _) HZ3.out.tx.lo (name_pos HNM.out.1) (by have q1 := name_len HNM.out.1; have q2 := (HVX.out.1).1.1; have l0 := HLU2.out; have l1 := HL1.out k hk; (try simp only [lA, lC, lN]); omega)).mono ?_
   rintro e z4 ⟨v4, rfl, hO4, hK4⟩
   have HZ4 : Hid (TZ w wr.heap.size (sF (x.sel k)) v4 (U2 ++ tsS x k ++ [40, 32] ++ [83, 85, 77, 32] ++ vTx (x.sel k).of.b) (qF x) z4) := HZ3.out.say hO4 hK4
   clear hO4 hK4
   go_wp2_with fail
   refine hK.out _ _ ?_ (fun hHeld => ?_)
   · exact HZ4.out.bx
   clear hK K
   try simp only [Act.put, sA, zA, cA]
   refine rdA 4 fun K hK => ?_
   go_simp
   refine (l4wordX v4 (w.heap.size + 1) (U2 ++ tsS x k ++ [40, 32] ++ [83, 85, 77, 32] ++ vTx (x.sel k).of.b) ⟨#[65, 83]⟩ _ HZ4.out.tx.own HZ4.out.tx.lo (by decide) (by rw [show (ByteArray.mk #[65, 83]).size = 2 from rfl]; have l0 := HLU2.out; have l1 := HL1.out k hk; have q1 := vTx_len HNM.out.1; (try simp only [lA, lC, lN]); omega)).mono ?_
   rintro e z5 ⟨v5, rfl, hO5, hK5⟩
   have HZ5 : Hid (TZ w wr.heap.size (sF (x.sel k)) v5 (U2 ++ tsS x k ++ [40, 32] ++ [83, 85, 77, 32] ++ vTx (x.sel k).of.b ++ [65, 83, 32]) (qF x) z5) := HZ4.out.say hO5 hK5
   clear hO5 hK5
   go_wp2_with fail
   refine hK.out _ _ ?_ (fun hHeld => ?_)
   · exact HZ5.out.bx
   clear hK K
   try simp only [Act.put, sA, zA, cA]
   refine rdA 7 fun K hK => ?_
   go_simp
   refine (l4sayVarX v5 (w.heap.size + 1) (U2 ++ tsS x k ++ [40, 32] ++ [83, 85, 77, 32] ++ vTx (x.sel k).of.b ++ [65, 83, 32]) (x.sel k).v w _ HZ5.out.tx.own HVX.out.2 HZ5.out.tx.bl (Nat.le_succ _) HZ5.out.tx.lo (name_pos HNM.out.2) (by have q1 := name_len HNM.out.2; have q2 := (HVX.out.2).1.1; have l0 := HLU2.out; have l1 := HL1.out k hk; have q3 := vTx_len HNM.out.1; (try simp only [lA, lC, lN]); omega)).mono ?_
   rintro e z6 ⟨v6, rfl, hO6, hK6⟩
   have HZ6 : Hid (TZ w wr.heap.size (sF (x.sel k)) v6 (U2 ++ tsS x k ++ [40, 32] ++ [83, 85, 77, 32] ++ vTx (x.sel k).of.b ++ [65, 83, 32] ++ vTx (x.sel k).v.b) (qF x) z6) := HZ5.out.say hO6 hK6
   clear hO6 hK6
   go_wp2_with fail
   refine hK.out _ _ ?_ (fun hHeld => ?_)
   · exact HZ6.out.bx
   clear hK K
   try simp only [Act.put, sA, zA, cA]
   refine rdA 8 fun K hK => ?_
   go_simp
   refine (l4wordX v6 (w.heap.size + 1) (U2 ++ tsS x k ++ [40, 32] ++ [83, 85, 77, 32] ++ vTx (x.sel k).of.b ++ [65, 83, 32] ++ vTx (x.sel k).v.b) ⟨#[41]⟩ _ HZ6.out.tx.own HZ6.out.tx.lo (by decide) (by rw [show (ByteArray.mk #[41]).size = 1 from rfl]; have l0 := HLU2.out; have l1 := HL1.out k hk; have q1 := vTx_len HNM.out.1; have q2 := vTx_len HNM.out.2; (try simp only [lA, lC, lN]); omega)).mono ?_
   rintro e z7 ⟨v7, rfl, hO7, hK7⟩
   have HZ7 : Hid (TZ w wr.heap.size (sF (x.sel k)) v7 (U2 ++ tsS x k ++ [40, 32] ++ [83, 85, 77, 32] ++ vTx (x.sel k).of.b ++ [65, 83, 32] ++ vTx (x.sel k).v.b ++ [41, 32]) (qF x) z7) := HZ6.out.say hO7 hK7
   clear hO7 hK7
   go_wp2_with fail
   refine hK.out _ _ ?_ (fun hHeld => ?_)
   · exact HZ7.out.bx
   clear hK K
   refine tkB 9 3 ?_
   refine wpAnyH_done (by kernel_rfl) ?_ _
   have HTE : Hid (TX w v7 (U2 ++ tsS x (k + 1)) (qF x) z7) := HZ7.out.tx.to (by rw [HSU.out, HSE.out]; simp)
   clear hHeld HZ3 HZ4 HZ5 HZ6 HZ7
   go_wp2_with fail
   go_roundw
   case rel => exact ⟨k + 1, v7, by omega, rfl, by go_num, HTE⟩
   case measure => simp [intOf]; omega
 obtain rfl : k = x.sn := by omega
 have hlkz : ¬ (x.sn : Int) < (x.sn : Int) := by omega
 go_wp2_with fail
 have HT3 := hid (HTr.out.below bdr)
 refine wp_region_held_drew (S := fun w' => Box w' w.heap.size (qF x)) (by kernel_rfl) ?_ (fun hHeld => ?_)
 · exact HT3.out.bx
 refine tkB 0 64 ?_
 refine tkB 2 66 ?_
 refine tkA 3 67 (v := ?v15) ?y15 ?_
 case y15 => (intro w' hSw; have q1 := hSw.2 3 _ rfl; go_simp; (try with_reducible rfl))
 try simp only [Act.put, sA, zA, cA]
 refine rdA 1 fun K hK => ?_
 go_simp
 refine (l4wordX v' (w.heap.size + 1) (U2 ++ tsS x x.sn) ⟨#[87, 72, 69, 82, 69]⟩ _ HT3.out.own HT3.out.lo (by decide) (by rw [show (ByteArray.mk #[87, 72, 69, 82, 69]).size = 5 from rfl]; have l0 := HLU2.out; have l1 := HL1.out x.sn (Nat.le_refl _); (try simp only [List.length_append]); omega)).mono ?_
 rintro e z4 ⟨v4, rfl, hO4, hK4⟩
 have HT4 : Hid (TY w v4 (U2 ++ tsS x x.sn ++ [87, 72, 69, 82, 69, 32]) (qF x) z4) := HT3.out.say hO4 hK4
 clear hO4 hK4
 go_wp2_with fail
 refine hK.out _ _ ?_ (fun hHeld => ?_)
 · exact HT4.out.tx.bx
 clear hK K
 try simp only [Act.put, sA, zA, cA]
 refine rdA 4 fun K hK => ?_
 go_simp
 refine (HSG.out v4 (U2 ++ tsS x x.sn ++ [87, 72, 69, 82, 69, 32]) _ HT4.out.tx.own HT4.out.tx.bl HT4.out.tx.lo (by have l0 := HLU2.out; have l1 := HL1.out x.sn (Nat.le_refl _); (try simp only [lA, lC, lN]); omega)).mono ?_
 rintro e z5 ⟨v5, rfl, hO5, hK5⟩
 have HT5 := hid (HT4.out.tx.say hO5 hK5)
 clear hO5 hK5
 go_wp2_with fail
 refine hK.out _ _ ?_ (fun hHeld => ?_)
 · exact HT5.out.tx.bx
 clear hK K
 refine tkB 5 3 ?_
 refine wpAnyH_done (by kernel_rfl) ?_ _
 clear hHeld HT3 HT4 HTr y2
 obtain ⟨U5, hU5⟩ : ∃ U5, U5 = U2 ++ tsS x x.sn ++ [87, 72, 69, 82, 69, 32] ++ gTx x.bn x.body := ⟨_, rfl⟩
 have HLU5 : Hid (U5.length ≤ 84400) := (show _ ≤ _ by have l4 := HLg.out; have l0 := HLU2.out; have l1 := HL1.out x.sn (Nat.le_refl _); rw [hU5]; simp only [lA, lC, lN]; omega)
 rw [← hU5] at HT5 HTX
 clear hU5 HLU2 HL1 HLg HSG
 have yy := HT5.out.tx.bx.2 4 _ rfl
 go_upto_if 72 with fail
 go_cut [3] from 69 (fun s3 wx => ∃ v, v = s3 ∧ Hid (TY w v (U5 ++ grpTx x) (qF x) wx))
 case first =>
   by_cases hz : 0 < x.gn
   · have HDE := hid (show grpTx x = _ by unfold grpTx; rw [if_pos hz])
     have hzz : (x.gn : Int) > 0 := by omega
     clear hz
     go_wp2_with fail
     refine (l4wordX v5 (w.heap.size + 1) (U5) ⟨#[71, 82, 79, 85, 80]⟩ _ HT5.out.tx.own HT5.out.tx.lo (by decide) (by rw [show (ByteArray.mk #[71, 82, 79, 85, 80]).size = 5 from rfl]; have l0 := HLU5.out; (try simp only [lA, lC, lN]); omega)).mono ?_
     rintro e z1 ⟨v1, rfl, hO1, hK1⟩
     have HTE : Hid (TY w v1 (U5 ++ grpTx x) (qF x) z1) := (HT5.out.tx.say hO1 hK1).to (by rw [HDE.out]; rfl)
     clear hO1 hK1 HT5 yy
     go_wp2_with fail
     go_meet
     case rel => exact ⟨_, rfl, HTE⟩
   have HTE : Hid (TY w v5 (U5 ++ grpTx x) (qF x) z5) := HT5.out.to (by unfold grpTx; rw [if_neg hz, List.append_nil])
   have hzz : ¬ (x.gn : Int) > 0 := by omega
   clear hz HT5
   go_wp2_with fail
   go_meet
   case rel => exact ⟨_, rfl, HTE⟩
 obtain ⟨v6, rfl, HT6⟩ := hcut
 clear HT5 yy
 obtain ⟨U6, hU6⟩ : ∃ U6, U6 = U5 ++ grpTx x := ⟨_, rfl⟩
 have HLU6 : Hid (U6.length ≤ 84406) := (show _ ≤ _ by have l0 := HLU5.out; have l1 := HLp.out; rw [hU6]; simp only [List.length_append]; omega)
 rw [← hU6] at HT6 HTX
 clear hU6 HLU5 HLp
 go_wp2_with fail
 go_loopw [3, 6] (fun b i wr => ∃ (k : Nat) (v' : Value), k ≤ x.gn ∧ v' = b ∧ i = .int .i64 k ∧ Hid (TY w v' (U6 ++ tsG x k) (qF x) wr)) (fun _ i _ => x.gn - (intOf i).toNat)
 case atStart => exact ⟨0, v6, Nat.zero_le _, rfl, rfl, HT6.out.to (by show _ = U6 ++ []; rw [List.append_nil])⟩
 clear HT6
 obtain ⟨j, va, hj, rfl, rfl, HTj⟩ := hrel
 have y4 := HTj.out.tx.bx.2 4 _ rfl
 by_cases hlj : j < x.gn
 · have hljz : (j : Int) < (x.gn : Int) := by omega
   have hj4 : j < 4 := by have := HG4.out; omega
   obtain ⟨b, off, hga, _, hlt, hck⟩ := HRG.out.resolve_left (by omega)
   rw [hga] at y4
   have cx := (HTj.out.tx.bl.cell (p := ⟨b, off + j, none⟩) hlt).trans (by have h1 := hck j hlj 0 _ rfl; simpa using h1)
   have HVG := hid (HGL.out j hlj)
   have HNG := hid (HGN.out j hlj)
   clear hga hck
   go_wp2_with fail
   refine (l4sayVarX va (w.heap.size + 1) (U6 ++ tsG x j) (x.grp j) w _ HTj.out.tx.own HVG.out HTj.out.tx.bl (Nat.le_succ _) HTj.out.tx.lo (name_pos HNG.out) (by have q1 := name_len HNG.out; have q2 := (HVG.out).1.1; have l0 := HLU6.out; have l1 := HL2.out j hj; (try simp only [List.length_append]); omega)).mono ?_
   rintro e z1 ⟨v1, rfl, hO1, hK1⟩
   have HTE : Hid (TY w v1 (U6 ++ tsG x (j + 1)) (qF x) z1) := (HTj.out.tx.say hO1 hK1).to (by show _ = U6 ++ (tsG x j ++ vTx (x.grp j).b); simp [vTx])
   clear hO1 hK1 HTj y4 cx
   go_wp2_with fail
   go_roundw
   case rel => exact ⟨j + 1, v1, by omega, rfl, by go_num, HTE⟩
   case measure => simp [intOf]; omega
 obtain rfl : j = x.gn := by omega
 have hljz : ¬ (x.gn : Int) < (x.gn : Int) := by omega
 have yy := HTj.out.tx.bx.2 5 _ rfl
 go_upto_if 92 with fail
 go_cut [3] from 89 (fun s3 wx => ∃ v, v = s3 ∧ Hid (TY w v (U6 ++ tsG x x.gn ++ ordTx x) (qF x) wx))
 case first =>
   by_cases hz : 0 < x.on
   · have HDE := hid (show ordTx x = _ by unfold ordTx; rw [if_pos hz])
     have hzz : (x.on : Int) > 0 := by omega
     clear hz
     go_wp2_with fail
     refine (l4wordX va (w.heap.size + 1) (U6 ++ tsG x x.gn) ⟨#[79, 82, 68, 69, 82]⟩ _ HTj.out.tx.own HTj.out.tx.lo (by decide) (by rw [show (ByteArray.mk #[79, 82, 68, 69, 82]).size = 5 from rfl]; have l0 := HLU6.out; have l1 := HL2.out x.gn (Nat.le_refl _); (try simp only [List.length_append]); omega)).mono ?_
     rintro e z1 ⟨v1, rfl, hO1, hK1⟩
     have HTE : Hid (TY w v1 (U6 ++ tsG x x.gn ++ ordTx x) (qF x) z1) := (HTj.out.tx.say hO1 hK1).to (by rw [HDE.out]; rfl)
     clear hO1 hK1 HTj yy
     go_wp2_with fail
     go_meet
     case rel => exact ⟨_, rfl, HTE⟩
   have HTE : Hid (TY w va (U6 ++ tsG x x.gn ++ ordTx x) (qF x) wr) := HTj.out.to (by unfold ordTx; rw [if_neg hz, List.append_nil])
   have hzz : ¬ (x.on : Int) > 0 := by omega
   clear hz HTj
   go_wp2_with fail
   go_meet
   case rel => exact ⟨_, rfl, HTE⟩
 obtain ⟨v8, rfl, HT8⟩ := hcut
 clear HTj yy y4 hljz hj hlj
 obtain ⟨U8, hU8⟩ : ∃ U8, U8 = U6 ++ tsG x x.gn ++ ordTx x := ⟨_, rfl⟩
 have HLU8 : Hid (U8.length ≤ 84470) := (show _ ≤ _ by have l0 := HLU6.out; have l1 := HL2.out x.gn (Nat.le_refl _); have l2 := HLo.out; rw [hU8]; simp only [List.length_append]; omega)
 rw [← hU8] at HT8 HTX
 clear hU8 HLU6 HL2 HLo
 go_wp2_with fail
 go_loopw [3, 7] (fun b i wr => ∃ (k : Nat) (v' : Value), k ≤ x.on ∧ v' = b ∧ i = .int .i64 k ∧ Hid (TY w v' (U8 ++ tsK x k) (qF x) wr)) (fun _ i _ => x.on - (intOf i).toNat)
 case atStart => exact ⟨0, v8, Nat.zero_le _, rfl, rfl, HT8.out.to (by show _ = U8 ++ []; rw [List.append_nil])⟩
 clear HT8
 obtain ⟨j, va, hj, rfl, rfl, HTj⟩ := hrel
 have y5 := HTj.out.tx.bx.2 5 _ rfl
 by_cases hlj : j < x.on
 · have hljz : (j : Int) < (x.on : Int) := by omega
   have hj4 : j < 4 := by have := HO4.out; omega
   obtain ⟨b, off, hoa, _, hlt, hck⟩ := HRO.out.resolve_left (by omega)
   have HOA := hid hoa
   rw [hoa] at y5
   obtain ⟨dd, hdd⟩ : ∃ dd, dd = (x.key j).down := ⟨_, rfl⟩
   have c1 : wr.cell? ⟨b, off + j * 2 + 1, none⟩ = some (.bool dd) := (HTj.out.tx.bl.cell (p := ⟨b, off + j * 2 + 1, none⟩) hlt).trans (by rw [hdd]; exact hck j hlj 1 _ rfl)
   have HC0 := hid (fun W (hb : Bl w W) => (hb.cell (p := ⟨b, off + j * 2, none⟩) hlt).trans (by have h1 := hck j hlj 0 _ rfl; simpa using h1))
   have c0 := HC0.out wr HTj.out.tx.bl
   have HVG := hid (HOL.out j hlj)
   have HNG := hid (HON.out j hlj)
   have HDD := hid hdd.symm
   clear hoa hck hdd
   cases dd
   · have HKE : Hid (keyTx (x.key j) = vTx (x.key j).v.b) := (show keyTx _ = _ by unfold keyTx; rw [if_neg (by rw [HDD.out]; simp)]; rfl)
     go_wp2_with fail
     refine (l4sayVarX va (w.heap.size + 1) (U8 ++ tsK x j) (x.key j).v w _ HTj.out.tx.own HVG.out HTj.out.tx.bl (Nat.le_succ _) HTj.out.tx.lo (name_pos HNG.out) (by have q1 := name_len HNG.out; have q2 := (HVG.out).1.1; have l0 := HLU8.out; have l1 := HL3.out j hj; (try simp only [List.length_append]); omega)).mono ?_
     rintro e z1 ⟨v1, rfl, hO1, hK1⟩
     have HTE : Hid (TY w v1 (U8 ++ tsK x (j + 1)) (qF x) z1) := (HTj.out.tx.say hO1 hK1).to (by show _ = U8 ++ (tsK x j ++ keyTx (x.key j)); rw [HKE.out]; simp [vTx])
     clear hO1 hK1 HTj y5 c0 c1
     go_wp2_with fail
     go_roundw
     case rel => exact ⟨j + 1, v1, by omega, rfl, by go_num, HTE⟩
     case measure => simp [intOf]; omega
   have HKE := hid (show keyTx _ = _ by unfold keyTx; rw [if_pos HDD.out])
   go_wp2_with fail
   refine (l4wordX va (w.heap.size + 1) (U8 ++ tsK x j) ⟨#[45]⟩ _ HTj.out.tx.own HTj.out.tx.lo (by decide) (by rw [show (ByteArray.mk #[45]).size = 1 from rfl]; have l0 := HLU8.out; have l1 := HL3.out j hj; (try simp only [List.length_append]); omega)).mono ?_
   rintro e z0 ⟨v0, rfl, hO0, hK0⟩
   have HT0 : Hid (TY w v0 (U8 ++ tsK x j ++ [45, 32]) (qF x) z0) := HTj.out.tx.say hO0 hK0
   clear hO0 hK0 HTj y5 c0 c1
   have y5 := HT0.out.tx.bx.2 5 _ rfl
   rw [HOA.out] at y5
   have c0 := HC0.out z0 HT0.out.tx.bl
   go_wp2_with fail
   refine (l4sayVarX v0 (w.heap.size + 1) (U8 ++ tsK x j ++ [45, 32]) (x.key j).v w _ HT0.out.tx.own HVG.out HT0.out.tx.bl (Nat.le_succ _) HT0.out.tx.lo (name_pos HNG.out) (by have q1 := name_len HNG.out; have q2 := (HVG.out).1.1; have l0 := HLU8.out; have l1 := HL3.out j hj; (try simp only [lA, lC, lN]); omega)).mono ?_
   rintro e z1 ⟨v1, rfl, hO1, hK1⟩
   have HTE : Hid (TY w v1 (U8 ++ tsK x (j + 1)) (qF x) z1) := (HT0.out.tx.say hO1 hK1).to (by show _ = U8 ++ (tsK x j ++ keyTx (x.key j)); rw [HKE.out]; simp [vTx])
   clear hO1 hK1 HT0 y5 c0
   go_wp2_with fail
   go_roundw
   case rel => exact ⟨j + 1, v1, by omega, rfl, by go_num, HTE⟩
   case measure => simp [intOf]; omega
 obtain rfl : j = x.on := by omega
 have hljz : ¬ (x.on : Int) < (x.on : Int) := by omega
 obtain ⟨U9, hU9⟩ : ∃ U9, U9 = U8 ++ tsK x x.on := ⟨_, rfl⟩
 have HLU9 : Hid (U9.length ≤ 84540) := (show _ ≤ _ by have l0 := HLU8.out; have l1 := HL3.out x.on (Nat.le_refl _); rw [hU9]; simp only [List.length_append]; omega)
 rw [← hU9] at HTj HTX
 clear hU9 HLU8 HL3
 have yy := HTj.out.tx.bx.2 6 _ rfl
 go_upto_if 120 with fail
 go_cut [3] from 118 (fun s3 wx => ∃ v, v = s3 ∧ Hid (TY w v (U9 ++ limTx x) (qF x) wx))
 case first =>
   by_cases hz : x.lim ≥ 0
   · have HDE := hid (show limTx x = _ by unfold limTx; rw [if_pos hz])
     have hzz := hz
     have HDG : Hid (∀ W, Cl 69 #[.int .i64 x.lim] W fun e w' => DigRes W (digitsL x.lim.toNat) e w') := fun W => by
       have h1 := l1digits_any x.lim.toNat W (by have := HNL.out; omega)
       rwa [Int.toNat_of_nonneg (by omega)] at h1
     have HDL : Hid (1 ≤ (digitsL x.lim.toNat).length ∧ (digitsL x.lim.toNat).length ≤ 20) := digits_most (by have := HNL.out; omega)
     have HTd := hid (HTj.out.below bdr)
     clear hz
     go_wp2_with fail
     clear yy HTj y5
     refine wp_region_held_drew (S := fun w' => Box w' w.heap.size (qF x)) (by kernel_rfl) ?_ (fun hHeld => ?_)
     · exact HTd.out.tx.bx
     refine tkB 0 121 ?_
     refine tkB 2 123 ?_
     refine tkA 3 124 (v := ?v19) ?y19 ?_
     case y19 => (intro w' hSw; have q1 := hSw.2 6 _ rfl; go_simp; (try with_reducible rfl))
     try simp only [Act.put, sA, zA, cA]
     refine wpAnyH_ready (rs := [1, 6]) (by kernel_rfl) (by simp) ?_
     refine (AllReadyH.cons rfl (fun K hK => ?_) (AllReadyH.cons rfl (fun K hK => ?_) AllReadyH.nil))
     · go_simp
       refine (l4wordX va (w.heap.size + 1) (U9) ⟨#[76, 73, 77, 73, 84]⟩ _ HTd.out.tx.own HTd.out.tx.lo (by decide) (by rw [show (ByteArray.mk #[76, 73, 77, 73, 84]).size = 5 from rfl]; have l0 := HLU9.out; (try simp only [lA, lC, lN]); omega)).mono ?_
       rintro e z20 ⟨v20, rfl, hO20, hK20⟩
       have HT20 : Hid (TY w v20 (U9 ++ [76, 73, 77, 73, 84, 32]) (qF x) z20) := HTd.out.tx.say hO20 hK20
       clear hO20 hK20
       go_wp2_with fail
       refine hK.out _ _ ?_ (fun hHeld => ?_)
       · exact HT20.out.tx.bx
       clear hK K
       try simp only [Act.put, sA, zA, cA]
       refine wpAnyH_ready (rs := [4, 6]) (by kernel_rfl) (by simp) ?_
       refine (AllReadyH.cons rfl (fun K hK => ?_) (AllReadyH.cons rfl (fun K hK => ?_) AllReadyH.nil))
       · go_simp
         refine (HDG.out _).mono ?_
         rintro e z21 ⟨g21, c21, rfl, hR21, hb21⟩
         have HT21 := hid (HT20.out.below hb21)
         have HD21 := hid (hR21.src HT20.out.own)
         clear hR21 hb21
         go_wp2_with fail
         refine hK.out _ _ ?_ (fun hHeld => ?_)
         · exact HT21.out.tx.bx
         clear hK K
         try simp only [Act.put, sA, zA, cA]
         refine wpAnyH_ready (rs := [5, 6]) (by kernel_rfl) (by simp) ?_
         refine (AllReadyH.cons rfl (fun K hK => ?_) (AllReadyH.cons rfl (fun K hK => ?_) AllReadyH.nil))
         · refine step_app8k rfl 126 rfl (.tmp 122) (.tmp 125) rfl (w.heap.size + 1) v20 (U9 ++ [76, 73, 77, 73, 84, 32]) rfl HT21.out.own g21 _ c21 (digitsL x.lim.toNat) rfl rfl HD21 HDL.out.1 (by have l0 := HLU9.out; have q9 := HDL.out.2; (try simp only [lA, lC, lN]); omega) HT21.out.tx.lo ?_
           intro v22 z22 HO22 HK22
           have HT22 := hid (HT21.out.tx.say HO22.out HK22.out)
           clear HO22 HK22
           refine hK.out _ _ ?_ (fun hHeld => ?_)
           · exact HT22.out.tx.bx
           clear hK K
           try simp only [Act.put, sA, zA, cA]
           refine rdA 6 fun K hK => ?_
           go_simp
           have HT23 : Hid (TY w v22 (U9 ++ [76, 73, 77, 73, 84, 32] ++ (digitsL x.lim.toNat)) (qF x) (z22.alloc (.cells #[.int .u8 32] 5))) := HT22.out.below (bl_a _)
           have HP23 : Hid (Src8 (z22.alloc (.cells #[.int .u8 32] 5)) v22 z22.heap.size [32]) := ⟨by simp, HT22.out.own.off1, one_news z22 32⟩
           refine hK.out _ _ ?_ (fun hHeld => ?_)
           · exact HT23.out.tx.bx
           clear hK K
           try simp only [Act.put, sA, zA, cA]
           refine rdA 7 fun K hK => ?_
           refine step_app8k rfl 128 rfl (.tmp 126) (.tmp 127) rfl (w.heap.size + 1) v22 (U9 ++ [76, 73, 77, 73, 84, 32] ++ (digitsL x.lim.toNat)) rfl HT23.out.own z22.heap.size 1 1 [32] rfl rfl HP23 (by omega) (by have l0 := HLU9.out; have q9 := HDL.out.2; (try simp only [lA, lC, lN]); omega) HT23.out.tx.lo ?_
           intro v24 z24 HO24 HK24
           have HT24 : Hid (TY w v24 (U9 ++ limTx x) (qF x) z24) := (HT23.out.tx.say (bs' := U9 ++ [76, 73, 77, 73, 84, 32] ++ (digitsL x.lim.toNat) ++ [32]) HO24.out HK24.out).to (by rw [HDE.out]; simp [numTx])
           clear HO24 HK24
           refine hK.out _ _ ?_ (fun hHeld => ?_)
           · exact HT24.out.tx.bx
           clear hK K
           refine tkB 8 3 ?_
           refine wpAnyH_done (by kernel_rfl) ?_ _
           clear hHeld
           go_wp2_with fail
           go_meet
           case rel => exact ⟨_, rfl, HT24⟩
         go_simp
         have HT25 : Hid (TY w v20 (U9 ++ [76, 73, 77, 73, 84, 32]) (qF x) (z21.alloc (.cells #[.int .u8 32] 5))) := HT21.out.below (bl_a _)
         have HP25 : Hid (Src8 (z21.alloc (.cells #[.int .u8 32] 5)) v20 z21.heap.size [32]) := ⟨by simp, HT21.out.own.off1, one_news z21 32⟩
         have HD25 : Hid (Src8 (z21.alloc (.cells #[.int .u8 32] 5)) v20 g21 (digitsL x.lim.toNat)) := HD21.out.below (bl_a _)
         refine hK.out _ _ ?_ (fun hHeld => ?_)
         · exact HT25.out.tx.bx
         clear hK K
         try simp only [Act.put, sA, zA, cA]
         refine rdA 5 fun K hK => ?_
         refine step_app8k rfl 126 rfl (.tmp 122) (.tmp 125) rfl (w.heap.size + 1) v20 (U9 ++ [76, 73, 77, 73, 84, 32]) rfl HT25.out.own g21 _ c21 (digitsL x.lim.toNat) rfl rfl HD25 HDL.out.1 (by have l0 := HLU9.out; have q9 := HDL.out.2; (try simp only [lA, lC, lN]); omega) HT25.out.tx.lo ?_
         intro v26 z26 HO26 HK26
         have HT26 := hid (HT25.out.tx.say HO26.out HK26.out)
         have HP26 := hid (HP25.out.kp HK26.out)
         clear HO26 HK26
         refine hK.out _ _ ?_ (fun hHeld => ?_)
         · exact HT26.out.tx.bx
         clear hK K
         try simp only [Act.put, sA, zA, cA]
         refine rdA 7 fun K hK => ?_
         refine step_app8k rfl 128 rfl (.tmp 126) (.tmp 127) rfl (w.heap.size + 1) v26 (U9 ++ [76, 73, 77, 73, 84, 32] ++ (digitsL x.lim.toNat)) rfl HT26.out.own z21.heap.size 1 1 [32] rfl rfl HP26 (by omega) (by have l0 := HLU9.out; have q9 := HDL.out.2; (try simp only [lA, lC, lN]); omega) HT26.out.tx.lo ?_
         intro v27 z27 HO27 HK27
         have HT27 : Hid (TY w v27 (U9 ++ limTx x) (qF x) z27) := (HT26.out.tx.say (bs' := U9 ++ [76, 73, 77, 73, 84, 32] ++ (digitsL x.lim.toNat) ++ [32]) HO27.out HK27.out).to (by rw [HDE.out]; simp [numTx])
         clear HO27 HK27
         refine hK.out _ _ ?_ (fun hHeld => ?_)
         · exact HT27.out.tx.bx
         clear hK K
         refine tkB 8 3 ?_
         refine wpAnyH_done (by kernel_rfl) ?_ _
         clear hHeld
         go_wp2_with fail
         go_meet
         case rel => exact ⟨_, rfl, HT27⟩
       go_simp
       have HT28 : Hid (TY w v20 (U9 ++ [76, 73, 77, 73, 84, 32]) (qF x) (z20.alloc (.cells #[.int .u8 32] 5))) := HT20.out.below (bl_a _)
       have HP28 : Hid (Src8 (z20.alloc (.cells #[.int .u8 32] 5)) v20 z20.heap.size [32]) := ⟨by simp, HT20.out.own.off1, one_news z20 32⟩
       refine hK.out _ _ ?_ (fun hHeld => ?_)
       · exact HT28.out.tx.bx
       clear hK K
       try simp only [Act.put, sA, zA, cA]
       refine rdA 4 fun K hK => ?_
       go_simp
       refine (HDG.out _).mono ?_
       rintro e z29 ⟨g29, c29, rfl, hR29, hb29⟩
       have HT29 := hid (HT28.out.below hb29)
       have HD29 := hid (hR29.src HT28.out.own)
       have HP29 := hid (HP28.out.below hb29)
       clear hR29 hb29
       go_wp2_with fail
       refine hK.out _ _ ?_ (fun hHeld => ?_)
       · exact HT29.out.tx.bx
       clear hK K
       try simp only [Act.put, sA, zA, cA]
       refine rdA 5 fun K hK => ?_
       refine step_app8k rfl 126 rfl (.tmp 122) (.tmp 125) rfl (w.heap.size + 1) v20 (U9 ++ [76, 73, 77, 73, 84, 32]) rfl HT29.out.own g29 _ c29 (digitsL x.lim.toNat) rfl rfl HD29 HDL.out.1 (by have l0 := HLU9.out; have q9 := HDL.out.2; (try simp only [lA, lC, lN]); omega) HT29.out.tx.lo ?_
       intro v30 z30 HO30 HK30
       have HT30 := hid (HT29.out.tx.say HO30.out HK30.out)
       have HP30 := hid (HP29.out.kp HK30.out)
       clear HO30 HK30
       refine hK.out _ _ ?_ (fun hHeld => ?_)
       · exact HT30.out.tx.bx
       clear hK K
       try simp only [Act.put, sA, zA, cA]
       refine rdA 7 fun K hK => ?_
       refine step_app8k rfl 128 rfl (.tmp 126) (.tmp 127) rfl (w.heap.size + 1) v30 (U9 ++ [76, 73, 77, 73, 84, 32] ++ (digitsL x.lim.toNat)) rfl HT30.out.own z20.heap.size 1 1 [32] rfl rfl HP30 (by omega) (by have l0 := HLU9.out; have q9 := HDL.out.2; (try simp only [lA, lC, lN]); omega) HT30.out.tx.lo ?_
       intro v31 z31 HO31 HK31
       have HT31 : Hid (TY w v31 (U9 ++ limTx x) (qF x) z31) := (HT30.out.tx.say (bs' := U9 ++ [76, 73, 77, 73, 84, 32] ++ (digitsL x.lim.toNat) ++ [32]) HO31.out HK31.out).to (by rw [HDE.out]; simp [numTx])
       clear HO31 HK31
       refine hK.out _ _ ?_ (fun hHeld => ?_)
       · exact HT31.out.tx.bx
       clear hK K
       refine tkB 8 3 ?_
       refine wpAnyH_done (by kernel_rfl) ?_ _
       clear hHeld
       go_wp2_with fail
       go_meet
       case rel => exact ⟨_, rfl, HT31⟩
     go_simp
     have HT32 : Hid (TY w va (U9) (qF x) (wr.drew.alloc (.cells #[.int .u8 32] 5))) := HTd.out.below (bl_a _)
     have HP32 : Hid (Src8 (wr.drew.alloc (.cells #[.int .u8 32] 5)) va wr.drew.heap.size [32]) := ⟨by simp, HTd.out.own.off1, one_news wr.drew 32⟩
     refine hK.out _ _ ?_ (fun hHeld => ?_)
     · exact HT32.out.tx.bx
     clear hK K
     try simp only [Act.put, sA, zA, cA]
     refine rdA 1 fun K hK => ?_
     go_simp
     refine (l4wordX va (w.heap.size + 1) (U9) ⟨#[76, 73, 77, 73, 84]⟩ _ HT32.out.tx.own HT32.out.tx.lo (by decide) (by rw [show (ByteArray.mk #[76, 73, 77, 73, 84]).size = 5 from rfl]; have l0 := HLU9.out; (try simp only [lA, lC, lN]); omega)).mono ?_
     rintro e z33 ⟨v33, rfl, hO33, hK33⟩
     have HT33 : Hid (TY w v33 (U9 ++ [76, 73, 77, 73, 84, 32]) (qF x) z33) := HT32.out.tx.say hO33 hK33
     have HP33 := hid (HP32.out.kp hK33)
     clear hO33 hK33
     go_wp2_with fail
     refine hK.out _ _ ?_ (fun hHeld => ?_)
     · exact HT33.out.tx.bx
     clear hK K
     try simp only [Act.put, sA, zA, cA]
     refine rdA 4 fun K hK => ?_
     go_simp
     refine (HDG.out _).mono ?_
     rintro e z34 ⟨g34, c34, rfl, hR34, hb34⟩
     have HT34 := hid (HT33.out.below hb34)
     have HD34 := hid (hR34.src HT33.out.own)
     have HP34 := hid (HP33.out.below hb34)
     clear hR34 hb34
     go_wp2_with fail
     refine hK.out _ _ ?_ (fun hHeld => ?_)
     · exact HT34.out.tx.bx
     clear hK K
     try simp only [Act.put, sA, zA, cA]
     refine rdA 5 fun K hK => ?_
     refine step_app8k rfl 126 rfl (.tmp 122) (.tmp 125) rfl (w.heap.size + 1) v33 (U9 ++ [76, 73, 77, 73, 84, 32]) rfl HT34.out.own g34 _ c34 (digitsL x.lim.toNat) rfl rfl HD34 HDL.out.1 (by have l0 := HLU9.out; have q9 := HDL.out.2; (try simp only [lA, lC, lN]); omega) HT34.out.tx.lo ?_
     intro v35 z35 HO35 HK35
     have HT35 := hid (HT34.out.tx.say HO35.out HK35.out)
     have HP35 := hid (HP34.out.kp HK35.out)
     clear HO35 HK35
     refine hK.out _ _ ?_ (fun hHeld => ?_)
     · exact HT35.out.tx.bx
     clear hK K
     try simp only [Act.put, sA, zA, cA]
     refine rdA 7 fun K hK => ?_
     refine step_app8k rfl 128 rfl (.tmp 126) (.tmp 127) rfl (w.heap.size + 1) v35 (U9 ++ [76, 73, 77, 73, 84, 32] ++ (digitsL x.lim.toNat)) rfl HT35.out.own wr.drew.heap.size 1 1 [32] rfl rfl HP35 (by omega) (by have l0 := HLU9.out; have q9 := HDL.out.2; (try simp only [lA, lC, lN]); omega) HT35.out.tx.lo ?_
     intro v36 z36 HO36 HK36
     have HT36 : Hid (TY w v36 (U9 ++ limTx x) (qF x) z36) := (HT35.out.tx.say (bs' := U9 ++ [76, 73, 77, 73, 84, 32] ++ (digitsL x.lim.toNat) ++ [32]) HO36.out HK36.out).to (by rw [HDE.out]; simp [numTx])
     clear HO36 HK36
     refine hK.out _ _ ?_ (fun hHeld => ?_)
     · exact HT36.out.tx.bx
     clear hK K
     refine tkB 8 3 ?_
     refine wpAnyH_done (by kernel_rfl) ?_ _
     clear hHeld
     go_wp2_with fail
     go_meet
     case rel => exact ⟨_, rfl, HT36⟩
   have HTE : Hid (TY w va (U9 ++ limTx x) (qF x) wr) := HTj.out.to (by unfold limTx; rw [if_neg hz, List.append_nil])
   have hzz := hz
   clear hz HTj
   go_wp2_with fail
   go_meet
   case rel => exact ⟨_, rfl, HTE⟩
 obtain ⟨v10, rfl, HT10⟩ := hcut
 clear HTj yy y5 hljz hj hlj
 obtain ⟨U10, hU10⟩ : ∃ U10, U10 = U9 ++ limTx x := ⟨_, rfl⟩
 have HLU10 : Hid (U10.length ≤ 84570) := (show _ ≤ _ by have l0 := HLU9.out; have l1 := HLl.out; rw [hU10]; simp only [List.length_append]; omega)
 rw [← hU10] at HT10 HTX
 clear hU10 HLU9 HLl
 have yy := HT10.out.tx.bx.2 7 _ rfl
 go_upto_if 131 with fail
 go_cut [3] from 129 (fun s3 wx => ∃ v, v = s3 ∧ Hid (TY w v (U10 ++ offTx x) (qF x) wx))
 case first =>
   by_cases hz : x.off > 0
   · have HDE := hid (show offTx x = _ by unfold offTx; rw [if_pos hz])
     have hzz := hz
     have HDG : Hid (∀ W, Cl 69 #[.int .i64 x.off] W fun e w' => DigRes W (digitsL x.off.toNat) e w') := fun W => by
       have h1 := l1digits_any x.off.toNat W (by have := HNL.out; omega)
       rwa [Int.toNat_of_nonneg (by omega)] at h1
     have HDL : Hid (1 ≤ (digitsL x.off.toNat).length ∧ (digitsL x.off.toNat).length ≤ 20) := digits_most (by have := HNL.out; omega)
     have HTd := hid (HT10.out.below bdr)
     clear hz
     go_wp2_with fail
     clear yy HT10
     refine wp_region_held_drew (S := fun w' => Box w' w.heap.size (qF x)) (by kernel_rfl) ?_ (fun hHeld => ?_)
     · exact HTd.out.tx.bx
     refine tkB 0 132 ?_
     refine tkB 2 134 ?_
     refine tkA 3 135 (v := ?v26) ?y26 ?_
     case y26 => (intro w' hSw; have q1 := hSw.2 7 _ rfl; go_simp; (try with_reducible rfl))
     try simp only [Act.put, sA, zA, cA]
     refine wpAnyH_ready (rs := [1, 6]) (by kernel_rfl) (by simp) ?_
     refine (AllReadyH.cons rfl (fun K hK => ?_) (AllReadyH.cons rfl (fun K hK => ?_) AllReadyH.nil))
     · go_simp
       refine (l4wordX v10 (w.heap.size + 1) (U10) ⟨#[79, 70, 70, 83, 69, 84]⟩ _ HTd.out.tx.own HTd.out.tx.lo (by decide) (by rw [show (ByteArray.mk #[79, 70, 70, 83, 69, 84]).size = 6 from rfl]; have l0 := HLU10.out; (try simp only [lA, lC, lN]); omega)).mono ?_
       rintro e z20 ⟨v20, rfl, hO20, hK20⟩
       have HT20 : Hid (TY w v20 (U10 ++ [79, 70, 70, 83, 69, 84, 32]) (qF x) z20) := HTd.out.tx.say hO20 hK20
       clear hO20 hK20
       go_wp2_with fail
       refine hK.out _ _ ?_ (fun hHeld => ?_)
       · exact HT20.out.tx.bx
       clear hK K
       try simp only [Act.put, sA, zA, cA]
       refine wpAnyH_ready (rs := [4, 6]) (by kernel_rfl) (by simp) ?_
       refine (AllReadyH.cons rfl (fun K hK => ?_) (AllReadyH.cons rfl (fun K hK => ?_) AllReadyH.nil))
       · go_simp
         refine (HDG.out _).mono ?_
         rintro e z21 ⟨g21, c21, rfl, hR21, hb21⟩
         have HT21 := hid (HT20.out.below hb21)
         have HD21 := hid (hR21.src HT20.out.own)
         clear hR21 hb21
         go_wp2_with fail
         refine hK.out _ _ ?_ (fun hHeld => ?_)
         · exact HT21.out.tx.bx
         clear hK K
         try simp only [Act.put, sA, zA, cA]
         refine wpAnyH_ready (rs := [5, 6]) (by kernel_rfl) (by simp) ?_
         refine (AllReadyH.cons rfl (fun K hK => ?_) (AllReadyH.cons rfl (fun K hK => ?_) AllReadyH.nil))
         · refine step_app8k rfl 137 rfl (.tmp 133) (.tmp 136) rfl (w.heap.size + 1) v20 (U10 ++ [79, 70, 70, 83, 69, 84, 32]) rfl HT21.out.own g21 _ c21 (digitsL x.off.toNat) rfl rfl HD21 HDL.out.1 (by have l0 := HLU10.out; have q9 := HDL.out.2; (try simp only [lA, lC, lN]); omega) HT21.out.tx.lo ?_
           intro v22 z22 HO22 HK22
           have HT22 := hid (HT21.out.tx.say HO22.out HK22.out)
           clear HO22 HK22
           refine hK.out _ _ ?_ (fun hHeld => ?_)
           · exact HT22.out.tx.bx
           clear hK K
           try simp only [Act.put, sA, zA, cA]
           refine rdA 6 fun K hK => ?_
           go_simp
           have HT23 : Hid (TY w v22 (U10 ++ [79, 70, 70, 83, 69, 84, 32] ++ (digitsL x.off.toNat)) (qF x) (z22.alloc (.cells #[.int .u8 32] 5))) := HT22.out.below (bl_a _)
           have HP23 : Hid (Src8 (z22.alloc (.cells #[.int .u8 32] 5)) v22 z22.heap.size [32]) := ⟨by simp, HT22.out.own.off1, one_news z22 32⟩
           refine hK.out _ _ ?_ (fun hHeld => ?_)
           · exact HT23.out.tx.bx
           clear hK K
           try simp only [Act.put, sA, zA, cA]
           refine rdA 7 fun K hK => ?_
           refine step_app8k rfl 139 rfl (.tmp 137) (.tmp 138) rfl (w.heap.size + 1) v22 (U10 ++ [79, 70, 70, 83, 69, 84, 32] ++ (digitsL x.off.toNat)) rfl HT23.out.own z22.heap.size 1 1 [32] rfl rfl HP23 (by omega) (by have l0 := HLU10.out; have q9 := HDL.out.2; (try simp only [lA, lC, lN]); omega) HT23.out.tx.lo ?_
           intro v24 z24 HO24 HK24
           have HT24 : Hid (TY w v24 (U10 ++ offTx x) (qF x) z24) := (HT23.out.tx.say (bs' := U10 ++ [79, 70, 70, 83, 69, 84, 32] ++ (digitsL x.off.toNat) ++ [32]) HO24.out HK24.out).to (by rw [HDE.out]; simp [numTx])
           clear HO24 HK24
           refine hK.out _ _ ?_ (fun hHeld => ?_)
           · exact HT24.out.tx.bx
           clear hK K
           refine tkB 8 3 ?_
           refine wpAnyH_done (by kernel_rfl) ?_ _
           clear hHeld
           go_wp2_with fail
           go_meet
           case rel => exact ⟨_, rfl, HT24⟩
         go_simp
         have HT25 : Hid (TY w v20 (U10 ++ [79, 70, 70, 83, 69, 84, 32]) (qF x) (z21.alloc (.cells #[.int .u8 32] 5))) := HT21.out.below (bl_a _)
         have HP25 : Hid (Src8 (z21.alloc (.cells #[.int .u8 32] 5)) v20 z21.heap.size [32]) := ⟨by simp, HT21.out.own.off1, one_news z21 32⟩
         have HD25 : Hid (Src8 (z21.alloc (.cells #[.int .u8 32] 5)) v20 g21 (digitsL x.off.toNat)) := HD21.out.below (bl_a _)
         refine hK.out _ _ ?_ (fun hHeld => ?_)
         · exact HT25.out.tx.bx
         clear hK K
         try simp only [Act.put, sA, zA, cA]
         refine rdA 5 fun K hK => ?_
         refine step_app8k rfl 137 rfl (.tmp 133) (.tmp 136) rfl (w.heap.size + 1) v20 (U10 ++ [79, 70, 70, 83, 69, 84, 32]) rfl HT25.out.own g21 _ c21 (digitsL x.off.toNat) rfl rfl HD25 HDL.out.1 (by have l0 := HLU10.out; have q9 := HDL.out.2; (try simp only [lA, lC, lN]); omega) HT25.out.tx.lo ?_
         intro v26 z26 HO26 HK26
         have HT26 := hid (HT25.out.tx.say HO26.out HK26.out)
         have HP26 := hid (HP25.out.kp HK26.out)
         clear HO26 HK26
         refine hK.out _ _ ?_ (fun hHeld => ?_)
         · exact HT26.out.tx.bx
         clear hK K
         try simp only [Act.put, sA, zA, cA]
         refine rdA 7 fun K hK => ?_
         refine step_app8k rfl 139 rfl (.tmp 137) (.tmp 138) rfl (w.heap.size + 1) v26 (U10 ++ [79, 70, 70, 83, 69, 84, 32] ++ (digitsL x.off.toNat)) rfl HT26.out.own z21.heap.size 1 1 [32] rfl rfl HP26 (by omega) (by have l0 := HLU10.out; have q9 := HDL.out.2; (try simp only [lA, lC, lN]); omega) HT26.out.tx.lo ?_
         intro v27 z27 HO27 HK27
         have HT27 : Hid (TY w v27 (U10 ++ offTx x) (qF x) z27) := (HT26.out.tx.say (bs' := U10 ++ [79, 70, 70, 83, 69, 84, 32] ++ (digitsL x.off.toNat) ++ [32]) HO27.out HK27.out).to (by rw [HDE.out]; simp [numTx])
         clear HO27 HK27
         refine hK.out _ _ ?_ (fun hHeld => ?_)
         · exact HT27.out.tx.bx
         clear hK K
         refine tkB 8 3 ?_
         refine wpAnyH_done (by kernel_rfl) ?_ _
         clear hHeld
         go_wp2_with fail
         go_meet
         case rel => exact ⟨_, rfl, HT27⟩
       go_simp
       have HT28 : Hid (TY w v20 (U10 ++ [79, 70, 70, 83, 69, 84, 32]) (qF x) (z20.alloc (.cells #[.int .u8 32] 5))) := HT20.out.below (bl_a _)
       have HP28 : Hid (Src8 (z20.alloc (.cells #[.int .u8 32] 5)) v20 z20.heap.size [32]) := ⟨by simp, HT20.out.own.off1, one_news z20 32⟩
       refine hK.out _ _ ?_ (fun hHeld => ?_)
       · exact HT28.out.tx.bx
       clear hK K
       try simp only [Act.put, sA, zA, cA]
       refine rdA 4 fun K hK => ?_
       go_simp
       refine (HDG.out _).mono ?_
       rintro e z29 ⟨g29, c29, rfl, hR29, hb29⟩
       have HT29 := hid (HT28.out.below hb29)
       have HD29 := hid (hR29.src HT28.out.own)
       have HP29 := hid (HP28.out.below hb29)
       clear hR29 hb29
       go_wp2_with fail
       refine hK.out _ _ ?_ (fun hHeld => ?_)
       · exact HT29.out.tx.bx
       clear hK K
       try simp only [Act.put, sA, zA, cA]
       refine rdA 5 fun K hK => ?_
       refine step_app8k rfl 137 rfl (.tmp 133) (.tmp 136) rfl (w.heap.size + 1) v20 (U10 ++ [79, 70, 70, 83, 69, 84, 32]) rfl HT29.out.own g29 _ c29 (digitsL x.off.toNat) rfl rfl HD29 HDL.out.1 (by have l0 := HLU10.out; have q9 := HDL.out.2; (try simp only [lA, lC, lN]); omega) HT29.out.tx.lo ?_
       intro v30 z30 HO30 HK30
       have HT30 := hid (HT29.out.tx.say HO30.out HK30.out)
       have HP30 := hid (HP29.out.kp HK30.out)
       clear HO30 HK30
       refine hK.out _ _ ?_ (fun hHeld => ?_)
       · exact HT30.out.tx.bx
       clear hK K
       try simp only [Act.put, sA, zA, cA]
       refine rdA 7 fun K hK => ?_
       refine step_app8k rfl 139 rfl (.tmp 137) (.tmp 138) rfl (w.heap.size + 1) v30 (U10 ++ [79, 70, 70, 83, 69, 84, 32] ++ (digitsL x.off.toNat)) rfl HT30.out.own z20.heap.size 1 1 [32] rfl rfl HP30 (by omega) (by have l0 := HLU10.out; have q9 := HDL.out.2; (try simp only [lA, lC, lN]); omega) HT30.out.tx.lo ?_
       intro v31 z31 HO31 HK31
       have HT31 : Hid (TY w v31 (U10 ++ offTx x) (qF x) z31) := (HT30.out.tx.say (bs' := U10 ++ [79, 70, 70, 83, 69, 84, 32] ++ (digitsL x.off.toNat) ++ [32]) HO31.out HK31.out).to (by rw [HDE.out]; simp [numTx])
       clear HO31 HK31
       refine hK.out _ _ ?_ (fun hHeld => ?_)
       · exact HT31.out.tx.bx
       clear hK K
       refine tkB 8 3 ?_
       refine wpAnyH_done (by kernel_rfl) ?_ _
       clear hHeld
       go_wp2_with fail
       go_meet
       case rel => exact ⟨_, rfl, HT31⟩
     go_simp
     have HT32 : Hid (TY w v10 (U10) (qF x) (wc.drew.alloc (.cells #[.int .u8 32] 5))) := HTd.out.below (bl_a _)
     have HP32 : Hid (Src8 (wc.drew.alloc (.cells #[.int .u8 32] 5)) v10 wc.drew.heap.size [32]) := ⟨by simp, HTd.out.own.off1, one_news wc.drew 32⟩
     refine hK.out _ _ ?_ (fun hHeld => ?_)
     · exact HT32.out.tx.bx
     clear hK K
     try simp only [Act.put, sA, zA, cA]
     refine rdA 1 fun K hK => ?_
     go_simp
     refine (l4wordX v10 (w.heap.size + 1) (U10) ⟨#[79, 70, 70, 83, 69, 84]⟩ _ HT32.out.tx.own HT32.out.tx.lo (by decide) (by rw [show (ByteArray.mk #[79, 70, 70, 83, 69, 84]).size = 6 from rfl]; have l0 := HLU10.out; (try simp only [lA, lC, lN]); omega)).mono ?_
     rintro e z33 ⟨v33, rfl, hO33, hK33⟩
     have HT33 : Hid (TY w v33 (U10 ++ [79, 70, 70, 83, 69, 84, 32]) (qF x) z33) := HT32.out.tx.say hO33 hK33
     have HP33 := hid (HP32.out.kp hK33)
     clear hO33 hK33
     go_wp2_with fail
     refine hK.out _ _ ?_ (fun hHeld => ?_)
     · exact HT33.out.tx.bx
     clear hK K
     try simp only [Act.put, sA, zA, cA]
     refine rdA 4 fun K hK => ?_
     go_simp
     refine (HDG.out _).mono ?_
     rintro e z34 ⟨g34, c34, rfl, hR34, hb34⟩
     have HT34 := hid (HT33.out.below hb34)
     have HD34 := hid (hR34.src HT33.out.own)
     have HP34 := hid (HP33.out.below hb34)
     clear hR34 hb34
     go_wp2_with fail
     refine hK.out _ _ ?_ (fun hHeld => ?_)
     · exact HT34.out.tx.bx
     clear hK K
     try simp only [Act.put, sA, zA, cA]
     refine rdA 5 fun K hK => ?_
     refine step_app8k rfl 137 rfl (.tmp 133) (.tmp 136) rfl (w.heap.size + 1) v33 (U10 ++ [79, 70, 70, 83, 69, 84, 32]) rfl HT34.out.own g34 _ c34 (digitsL x.off.toNat) rfl rfl HD34 HDL.out.1 (by have l0 := HLU10.out; have q9 := HDL.out.2; (try simp only [lA, lC, lN]); omega) HT34.out.tx.lo ?_
     intro v35 z35 HO35 HK35
     have HT35 := hid (HT34.out.tx.say HO35.out HK35.out)
     have HP35 := hid (HP34.out.kp HK35.out)
     clear HO35 HK35
     refine hK.out _ _ ?_ (fun hHeld => ?_)
     · exact HT35.out.tx.bx
     clear hK K
     try simp only [Act.put, sA, zA, cA]
     refine rdA 7 fun K hK => ?_
     refine step_app8k rfl 139 rfl (.tmp 137) (.tmp 138) rfl (w.heap.size + 1) v35 (U10 ++ [79, 70, 70, 83, 69, 84, 32] ++ (digitsL x.off.toNat)) rfl HT35.out.own wc.drew.heap.size 1 1 [32] rfl rfl HP35 (by omega) (by have l0 := HLU10.out; have q9 := HDL.out.2; (try simp only [lA, lC, lN]); omega) HT35.out.tx.lo ?_
     intro v36 z36 HO36 HK36
     have HT36 : Hid (TY w v36 (U10 ++ offTx x) (qF x) z36) := (HT35.out.tx.say (bs' := U10 ++ [79, 70, 70, 83, 69, 84, 32] ++ (digitsL x.off.toNat) ++ [32]) HO36.out HK36.out).to (by rw [HDE.out]; simp [numTx])
     clear HO36 HK36
     refine hK.out _ _ ?_ (fun hHeld => ?_)
     · exact HT36.out.tx.bx
     clear hK K
     refine tkB 8 3 ?_
     refine wpAnyH_done (by kernel_rfl) ?_ _
     clear hHeld
     go_wp2_with fail
     go_meet
     case rel => exact ⟨_, rfl, HT36⟩
   have HTE : Hid (TY w v10 (U10 ++ offTx x) (qF x) wc) := HT10.out.to (by unfold offTx; rw [if_neg hz, List.append_nil])
   have hzz := hz
   clear hz HT10
   go_wp2_with fail
   go_meet
   case rel => exact ⟨_, rfl, HTE⟩
 obtain ⟨v11, rfl, HT11⟩ := hcut
 clear HT10 yy
 go_wp2_with fail
 go_ret
 exact ⟨_, rfl, HTX.out ▸ HT11.out.own, HT11.out.tx.bl⟩
end Go.Proofs.YthljoojcpbignaaGreatDoor
