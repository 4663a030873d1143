import Derived.Test.YthljoojcpbignaaGreatDoorMk34
import Derived.Deep.CutRange
namespace Go.Proofs.YthljoojcpbignaaGreatDoor
open Go.RowKit Go.Deep
set_option maxHeartbeats 40000000
set_option maxRecDepth 100000
def tsS (x : QY) (k : Nat) : List Int := catN k (fun i => selTx (x.sel i))
def tsG (x : QY) (k : Nat) : List Int := catN k (fun i => vTx (x.grp i).b)
def tsK (x : QY) (k : Nat) : List Int := catN k (fun i => keyTx (x.key i))
def qF (x : QY) : List Value := [.bool false, .bool x.dis, .slice x.sa x.sn x.sc, .slice x.ba x.bn x.bc, .slice x.ga x.gn x.gc, .slice x.oa x.on x.oc, .int .i64 x.lim, .int .i64 x.off]
def sF (s : SE) : List Value := [.int .i64 s.fn, .slice s.of.a s.of.len s.of.cap, .slice s.v.a s.v.len s.v.cap]
structure TZ (w : World) (p : Nat) (sc : List Value) (v : Value) (bs : List Int) (cs : List Value) (W : World) : Prop where
 tx : TX w v bs cs W
 bx : Box W p sc
 ne : v.ownBlock ≠ some p
theorem TZ.say {w : World} {p : Nat} {sc : List Value} {v v' : Value} {bs bs' : List Int} {cs : List Value} {W W' : World} (h : TZ w p sc v bs cs W) (hO : Own8 W' (w.heap.size + 1) v' bs'.length bs') (hK : Kp v W v' W') : TZ w p sc v' bs' cs W' :=
 ⟨(h.tx.say hO hK).tx, hK.box h.bx h.ne, fun e => by
  rcases hK.blk _ e with e | e
  · exact h.ne e
  have := h.bx.1
  omega⟩
theorem TZ.below {w : World} {p : Nat} {sc : List Value} {v : Value} {bs : List Int} {cs : List Value} {W W' : World} (h : TZ w p sc v bs cs W) (hb : Bl W W') : TZ w p sc v bs cs W' := ⟨h.tx.below hb, h.bx.below hb, h.ne⟩
theorem TZ.new {w : World} {v : Value} {bs : List Int} {cs : List Value} {W : World} (h : TX w v bs cs W) (sc : Array Value) (t : TypeId) : TZ w W.heap.size sc.toList v bs cs (W.alloc (.cells sc t)) :=
 ⟨h.below (bl_a _), Box.new W sc t (0, 0), fun e => by have := (h.own.low _ e).2; omega⟩
theorem digits_most {n : Nat} (h : n ≤ 999) : 1 ≤ (digitsL n).length ∧ (digitsL n).length ≤ 20 := ⟨digitsL_pos n, Nat.le_trans (digitsL_len 2 n (show n < 1000 by omega)) (by omega)⟩
structure Src8 (W : World) (v : Value) (g : Nat) (bs : List Int) : Prop where
 lt : g < W.heap.size
 ne : v.ownBlock ≠ some g
 at' : ∀ j u, (bs.map (Value.int .u8))[j]? = some u → W.cell? ((⟨g, 0, none⟩ : Addr).add j) = some u
theorem add_off (g j : Nat) : (⟨g, 0, none⟩ : Addr).add j = ⟨g, j, none⟩ := by by_cases h0 : j = 0 <;> simp [Addr.add, h0]
theorem Src8.kp {W W' : World} {v v' : Value} {g : Nat} {bs : List Int} (h : Src8 W v g bs) (hK : Kp v W v' W') : Src8 W' v' g bs :=
 ⟨Nat.lt_of_lt_of_le h.lt hK.size, fun e => by
  rcases hK.blk _ e with e | e
  · exact h.ne e
  · have := h.lt
    omega, fun j u hu => by
  have h1 := h.at' j u hu
  rw [add_off] at h1 ⊢
  exact (World.cell?_of_block (w := W) (a := ⟨g, j, none⟩) (hK.block g h.lt h.ne)).trans h1⟩
theorem Src8.below {W W' : World} {v : Value} {g : Nat} {bs : List Int} (h : Src8 W v g bs) (hb : Bl W W') : Src8 W' v g bs := h.kp (Kp.of_below hb)
theorem Row8.src {w w' : World} {B g n cap : Nat} {v : Value} {L bs : List Int} (h : Row8 w' w.heap.size g n cap L) (hO : Own8 w B v bs.length bs) : Src8 w' v g L :=
 ⟨h.2, fun e => by
  have h1 := (hO.2 _ e).2
  rcases h.1.2 with ⟨h2, _⟩ | ⟨g', _, _, h2, h3, _⟩
  · cases h2
  cases h2
  omega, h.news⟩
theorem step_app8k {ops : Array Oper} {o : Oper} {a : Act} {K : Act → World → Prop} {Q : Exit → Act → World → Prop} {w : World} {E : Prop} (hgd : o.guard = none) (d : Nat) (hd : o.dst = some d) (s x : Operand)
 (ho : o.op = .call { callee := .builtin .append, args := #[s, x], argTypes := #[42, 42] })
 (B : Nat) (v : Value) (us : List Int) (hs : a.eval s = v) (HO : Hd (Own8 w B v us.length us))
 (g0 m c : Nat) (bs : List Int) (hx : a.eval x = .slice (some ⟨g0, 0, none⟩) m c) (hl : bs.length = m) (HN : Hd (Src8 w v g0 bs)) (hm : 0 < m) (hle : us.length + m ≤ 1000000) (hB : B ≤ w.heap.size)
 (h : ∀ v' w', Hd (Own8 w' B v' (us ++ bs).length (us ++ bs)) → Hd (Kp v w v' w') → K (a.put (some d) v') w') :
 if Region.wanted o (yielded ops a.tmps) = true then Oper.wp Tryz.prog o a w K Q else E := by
 obtain ⟨i0, hi0, hzz⟩ := Option.map_eq_some_iff.1 Tryz.info5
 simp only [Prod.mk.injEq] at hzz
 obtain ⟨hi2, hi1, hi3⟩ := hzz
 subst hl
 refine step_append_lies w hgd s x 42 ho B 5 i0 (.int .u8 0) 1 1 Tryz.underlying42 hi0 hi2 hi1 hi3 rfl (by omega) v us.length (us.map (Value.int .u8)) hs HO.o.1 ⟨g0, 0, none⟩ bs.length c (bs.map (Value.int .u8)) hx (by simp) HN.o.at' (oneCell_map bs) hm (by unfold maxLen; omega) (by omega) hB _ rfl ?_
 intro g cap w' hown hgr hat hlt
 rw [hd]
 refine h _ w' ?_ (show Kp _ _ _ _ from ⟨hgr.os, hgr.tape, hgr.output, hgr.size, fun b hb hn => hgr.block b hb (fun e => hn e.symm), fun g' hg' => ?_⟩)
 · show Own8 _ _ _ _ _
   rw [List.length_append]
   exact (Row8.grown hown rfl hlt).own8
 have : g = g' := by simpa [Value.ownBlock] using hg'
 subst this
 rcases hat with e | e
 · exact .inl e
 exact .inr (by rw [e]; exact nR)
theorem text_sel (x : QY) (w : World) (hx : x.lies 0 w) (hs : SayQ x) (ha : x.ask = false) :
 Calls Tryz.prog 41 #[.agg #[.bool x.ask, .bool x.dis, .slice x.sa x.sn x.sc, .slice x.ba x.bn x.bc, .slice x.ga x.gn x.gc, .slice x.oa x.on x.oc, .int .i64 x.lim, .int .i64 x.off]] w (MadeT w (qTx x)) := by
 have HSG := iH (fun (v : Value) (bs : List Int) (W : World) (hO : OwnX W _ v bs) (hb : Bl w W) (hB : (w.heap.size + 1) ≤ W.heap.size) (hl : bs.length ≤ 10000) => sayGroup_core x.ba x.bc x.bn x.body 1 (w.heap.size + 1) w hx.b.2.2 hx.b.1 hx.b.2.1 hs.b.1 (Nat.le_succ _) (fun i hi => sayGroup_any (x.body i) 1 _ w (hx.b.2.1 i hi) (hs.b.1 i hi) (Nat.le_succ _)) v bs W (fun g hg => (hO.low g hg).1) (l4wordX v _ bs ⟨#[123]⟩ W hO hB (by decide) (by rw [show (ByteArray.mk #[123]).size = 1 from rfl]; omega)) hb hB (by have := hs.b.2; omega))
 have HX1 := iH (Box.new w #[.bool x.ask, .bool x.dis, .slice x.sa x.sn x.sc, .slice x.ba x.bn x.bc, .slice x.ga x.gn x.gc, .slice x.oa x.on x.oc, .int .i64 x.lim, .int .i64 x.off] 34 (0, 0))
 have HB1 : Hd (Bl w (w.alloc (.cells #[.bool x.ask, .bool x.dis, .slice x.sa x.sn x.sc, .slice x.ba x.bn x.bc, .slice x.ga x.gn x.gc, .slice x.oa x.on x.oc, .int .i64 x.lim, .int .i64 x.off] 34))) := bl_a _
 have HZ1 : Hd ((w.alloc (.cells #[.bool x.ask, .bool x.dis, .slice x.sa x.sn x.sc, .slice x.ba x.bn x.bc, .slice x.ga x.gn x.gc, .slice x.oa x.on x.oc, .int .i64 x.lim, .int .i64 x.off] 34)).heap.size = w.heap.size + 1) := (show _ = _ by simp)
 have HTX : Hd ([83, 69, 76, 69, 67, 84, 32] ++ disTx x ++ starTx x ++ tsS x x.sn ++ [87, 72, 69, 82, 69, 32] ++ gTx x.bn x.body ++ grpTx x ++ tsG x x.gn ++ ordTx x ++ tsK x x.on ++ limTx x ++ offTx x = qTx x) := (show _ = qTx x by unfold qTx; rw [if_neg (by simp [ha])]; unfold headTx tailTx tsS tsG tsK; simp only [List.append_assoc])
 have HLd := iH (dis_len x)
 have HLs := iH (star_len x)
 have HL1 : Hd (∀ k, k ≤ x.sn → (tsS x k).length ≤ 328) := fun k hk => sels_len hs hk
 have HLg := iH (gTx_len hs)
 have HLp := iH (grp_len x)
 have HL2 : Hd (∀ k, k ≤ x.gn → (tsG x k).length ≤ 56) := fun k hk => grps_len hs hk
 have HLo := iH (ord_len x)
 have HL3 : Hd (∀ k, k ≤ x.on → (tsK x k).length ≤ 64) := fun k hk => keys_len hs hk
 have HLl : Hd ((limTx x).length ≤ 27) := (show _ ≤ _ by unfold limTx; split; (have h1 := digits_most (n := x.lim.toNat) (by have := hs.lim; omega); simp only [numTx, List.length_append, List.length_cons, List.length_nil]; omega); simp)
 have HRS := iH hx.s.1
 have HSL : Hd (∀ i, i < x.sn → BsF 0 w (x.sel i).of ∧ BsF 0 w (x.sel i).v) := hx.s.2.1
 have HS8 := iH hs.s.1
 have HSN := iH hs.s.2
 have HRG := iH hx.g.1
 have HGL : Hd (∀ i, i < x.gn → BsF 0 w (x.grp i)) := hx.g.2.1
 have HG4 := iH hs.g.1
 have HGN := iH hs.g.2
 have HRO := iH hx.o.1
 have HOL : Hd (∀ i, i < x.on → BsF 0 w (x.key i).v) := hx.o.2.1
 have HO4 := iH hs.o.1
 have HON := iH hs.o.2
 have HNL : Hd (-1 ≤ x.lim ∧ x.lim ≤ 999 ∧ 0 ≤ x.off ∧ x.off ≤ 999) := ⟨hs.lim.1, hs.lim.2, hs.off.1, hs.off.2⟩
 rw [ha]
 rw [ha] at HX1 HB1 HZ1
 clear hx hs ha
 go_in
 go_upto_region 1 with fail
 generalize (w.alloc (.cells (qC2 false x) 34)) = W1 at *
 have x0 := HX1.o.2 0 _ rfl
 have cv : (convert 42 42 (.slice (some ⟨W1.heap.size, 0, none⟩) 7 7)).run Tryz.prog (W1.alloc (.cells #[.int .u8 83, .int .u8 69, .int .u8 76, .int .u8 69, .int .u8 67, .int .u8 84, .int .u8 32] 5)) = .ok (.slice (some ⟨W1.heap.size, 0, none⟩) 7 7) (W1.alloc (.cells #[.int .u8 83, .int .u8 69, .int .u8 76, .int .u8 69, .int .u8 67, .int .u8 84, .int .u8 32] 5 (7, 8))) := conv_k W1 W1.heap.size rfl _ 7
 have HT0 : Hd (TX w (.slice (some ⟨W1.heap.size, 0, none⟩) 7 7) ([83, 69, 76, 69, 67, 84, 32]) (qB false x) (W1.alloc (.cells #[.int .u8 83, .int .u8 69, .int .u8 76, .int .u8 69, .int .u8 67, .int .u8 84, .int .u8 32] 5 (7, 8)))) := ⟨.inr (fullR_new W1 (w.heap.size + 1) [83, 69, 76, 69, 67, 84, 32] #[.int .u8 83, .int .u8 69, .int .u8 76, .int .u8 69, .int .u8 67, .int .u8 84, .int .u8 32] rfl 5 (7, 8) (by have := HZ1.o; omega)), HX1.o.below (bl_a _), bl_trans HB1.o (bl_a _), (show _ ≤ _ by have := HZ1.o; simp; omega)⟩
 go_upto_region 4 with fail
 clear cv x0 HX1 HB1
 generalize (W1.alloc (.cells #[.int .u8 83, .int .u8 69, .int .u8 76, .int .u8 69, .int .u8 67, .int .u8 84, .int .u8 32] 5 (7, 8))) = W2 at *
 obtain ⟨dd, hdd⟩ : ∃ dd, dd = x.dis := ⟨_, rfl⟩
 have HDD := iH hdd.symm
 have y1 : W2.cell? ⟨w.heap.size, 1, none⟩ = some (.bool dd) := by rw [hdd]; exact HT0.o.bx.2 1 _ rfl
 clear hdd
 go_upto_if 18 with fail
 go_cut [3] from 17 (fun s3 wx => ∃ v, v = s3 ∧ Hd (TX w v ([83, 69, 76, 69, 67, 84, 32] ++ disTx x) (qF x) wx))
 case first =>
  cases dd
  · have HTE : Hd (TX w (.slice (some ⟨W1.heap.size, 0, none⟩) 7 7) ([83, 69, 76, 69, 67, 84, 32] ++ disTx x) (qF x) W2) := HT0.o.to (by unfold disTx; rw [if_neg (by rw [HDD.o]; simp)]; simp)
    clear HT0 y1
    go_wp2_with fail
    go_meet
    case rel => exact ⟨_, rfl, HTE⟩
  have HDE := iH (show disTx x = _ by unfold disTx; rw [if_pos HDD.o])
  clear y1
  go_wp2_with fail
  refine (l4wordX _ (w.heap.size + 1) ([83, 69, 76, 69, 67, 84, 32]) ⟨#[68, 73, 83, 84, 73, 78, 67, 84]⟩ _ HT0.o.own HT0.o.lo (by decide) (by rw [show (ByteArray.mk #[68, 73, 83, 84, 73, 78, 67, 84]).size = 8 from rfl]; skip; (try simp only [List.length_cons, List.length_nil]); omega)).mono ?_
  rintro e z1 ⟨v1, rfl, hO1, hK1⟩
  have HTE : Hd (TX w v1 ([83, 69, 76, 69, 67, 84, 32] ++ disTx x) (qF x) z1) := (HT0.o.say hO1 hK1).tx.to (by rw [HDE.o]; rfl)
  clear hO1 hK1 HT0
  go_wp2_with fail
  go_meet
  case rel => exact ⟨_, rfl, HTE⟩
 obtain ⟨v1, rfl, HT1⟩ := hcut
 clear HT0 HZ1 y1 HDD
 have y2 := HT1.o.bx.2 2 _ rfl
 go_upto_if 24 with fail
 go_cut [3] from 21 (fun s3 wx => ∃ v, v = s3 ∧ Hd (TX w v ([83, 69, 76, 69, 67, 84, 32] ++ disTx x ++ starTx x) (qF x) wx))
 case first =>
  by_cases hz : x.sn = 0
  · have HDE := iH (show starTx x = _ by unfold starTx; rw [if_pos hz])
    have kz : ((x.sn : Int) == 0) = true := by simp [hz]
    clear hz
    go_wp2_with fail
    refine (l4wordX v1 (w.heap.size + 1) ([83, 69, 76, 69, 67, 84, 32] ++ disTx x) ⟨#[42]⟩ _ HT1.o.own HT1.o.lo (by decide) (by rw [show (ByteArray.mk #[42]).size = 1 from rfl]; have l0 := HLd.o; (try simp only [lA, lC, lN]); omega)).mono ?_
    rintro e z1 ⟨v2, rfl, hO1, hK1⟩
    have HTE : Hd (TX w v2 ([83, 69, 76, 69, 67, 84, 32] ++ disTx x ++ starTx x) (qF x) z1) := (HT1.o.say hO1 hK1).tx.to (by rw [HDE.o]; rfl)
    clear hO1 hK1 HT1 y2
    go_wp2_with fail
    go_meet
    case rel => exact ⟨_, rfl, HTE⟩
  have HTE : Hd (TX w v1 ([83, 69, 76, 69, 67, 84, 32] ++ disTx x ++ starTx x) (qF x) wc) := HT1.o.to (by unfold starTx; rw [if_neg hz]; simp)
  have kz : ((x.sn : Int) == 0) = false := by simp [hz]
  clear hz HT1
  go_wp2_with fail
  go_meet
  case rel => exact ⟨_, rfl, HTE⟩
 obtain ⟨v2, rfl, HT2⟩ := hcut
 clear HT1 y2
 obtain ⟨U2, hU2⟩ : ∃ U2, U2 = [83, 69, 76, 69, 67, 84, 32] ++ disTx x ++ starTx x := ⟨_, rfl⟩
 have HLU2 : Hd (U2.length ≤ 18) := (show _ ≤ _ by have l0 := HLd.o; have l1 := HLs.o; rw [hU2]; simp only [lA, lC, lN]; omega)
 rw [← hU2] at HT2 HTX
 clear hU2 HLd HLs
 go_wp2_with fail
 go_loopw [3, 4] (fun b i wr => ∃ (k : Nat) (v' : Value), k ≤ x.sn ∧ v' = b ∧ i = .int .i64 k ∧ Hd (TX w v' (U2 ++ tsS x k) (qF x) wr)) (fun _ i _ => x.sn - (intOf i).toNat)
 case atStart => exact ⟨0, v2, nZ, rfl, rfl, HT2.o.to (by show _ = U2 ++ []; rw [List.append_nil])⟩
 clear HT2
 obtain ⟨k, v', hk, rfl, rfl, HTr⟩ := hrel
 have y2 := HTr.o.bx.2 2 _ rfl
 by_cases hlk : k < x.sn
 · have hlkz : (k : Int) < (x.sn : Int) := by omega
   obtain ⟨b, off, hsa, _, hlt, hck⟩ := HRS.o.resolve_left (by omega)
   rw [hsa] at y2
   have hcx : wr.rangeAt b (off + k * 3) (x.sel k).cl := fun c u hu => (HTr.o.bl.cell (p := ⟨b, off + k * 3 + c, none⟩) hlt).trans (hck k hlk c u hu)
   have HZ0 : Hd (TZ w wr.heap.size (sF (x.sel k)) v' (U2 ++ tsS x k) (qF x) (wr.alloc (.cells (x.sel k).ar 105))) := TZ.new HTr.o _ 105
   have HSU : Hd (tsS x (k + 1) = tsS x k ++ selTx (x.sel k)) := rfl
   have HVX := iH (HSL.o k hlk)
   have HNV := iH ((HSN.o k hlk).1)
   have hlk2 : k < 8 := by have := HS8.o; omega
   clear hsa hck
   by_cases h0 : (x.sel k).fn = 0
   · have k0 : ((x.sel k).fn == 0) = true := by simp [h0]
     have HSE := iH (show selTx _ = _ by unfold selTx; rw [if_pos h0])
     clear h0
     go_wp2_with (with_reducible refine wpq_at ?_; refine wpList_load_mid rfl 105 _ rfl _ _ rfl (x.sel k).cl _ hcx Tryz.underlying105 rfl (by kernel_rfl) ?_; try simp only [Act.put, sA, zA, cA])
     clear hcx
     refine (l4sayVarX v' (w.heap.size + 1) (U2 ++ tsS x k) (x.sel k).v w _ HZ0.o.tx.own HVX.o.2 HZ0.o.tx.bl (Nat.le_succ _) HZ0.o.tx.lo (name_pos HNV.o) (by have q1 := name_len HNV.o; have q2 := (HVX.o.2).1.1; have l0 := HLU2.o; have l1 := HL1.o k hk; (try simp only [List.length_append]); omega)).mono ?_
     rintro e z1 ⟨v1, rfl, hO1, hK1⟩
     have HTE : Hd (TX w v1 (U2 ++ tsS x (k + 1)) (qF x) z1) := (HZ0.o.tx.say hO1 hK1).tx.to (by rw [HSU.o, HSE.o]; simp [vTx])
     clear hO1 hK1 HZ0 y2 HTr
     go_wp2
     go_roundw
     case rel => exact ⟨k + 1, v1, by omega, rfl, by go_num, HTE⟩
     case measure => simp [intOf]; omega
   have HNM : Hd (nameOk (x.sel k).of.b = true ∧ nameOk (x.sel k).v.b = true) := ⟨(HSN.o k hlk).2 h0, HNV.o⟩
   have k0 : ((x.sel k).fn == 0) = false := by simp [h0]
   by_cases h1 : (x.sel k).fn = 1
   · have k1 : ((x.sel k).fn == 1) = true := by simp [h1]
     have HSE := iH (show selTx _ = _ by unfold selTx; rw [if_neg h0, if_pos h1])
     clear h0 h1
     go_wp2_with (with_reducible refine wpq_at ?_; refine wpList_load_mid rfl 105 _ rfl _ _ rfl (x.sel k).cl _ hcx Tryz.underlying105 rfl (by kernel_rfl) ?_; try simp only [Act.put, sA, zA, cA])
     clear hcx HTr y2
     refine (l4wordX v' (w.heap.size + 1) (U2 ++ tsS x k) ⟨#[40]⟩ _ HZ0.o.tx.own HZ0.o.tx.lo (by decide) (by rw [show (ByteArray.mk #[40]).size = 1 from rfl]; have l0 := HLU2.o; have l1 := HL1.o k hk; (try simp only [List.length_append]); omega)).mono ?_
     rintro e z1 ⟨v1, rfl, hO1, hK1⟩
     have HZ1 : Hd (TZ w wr.heap.size (sF (x.sel k)) v1 (U2 ++ tsS x k ++ [40, 32]) (qF x) z1) := HZ0.o.say hO1 hK1
     clear hO1 hK1
     go_wp2_with fail
     refine (l4wordX v1 (w.heap.size + 1) (U2 ++ tsS x k ++ [40, 32]) ⟨#[67, 79, 85, 78, 84]⟩ _ HZ1.o.tx.own HZ1.o.tx.lo (by decide) (by rw [show (ByteArray.mk #[67, 79, 85, 78, 84]).size = 5 from rfl]; have l0 := HLU2.o; have l1 := HL1.o k hk; (try simp only [lA, lC, lN]); omega)).mono ?_
     rintro e z2 ⟨v2, rfl, hO2, hK2⟩
     have HZ2 : Hd (TZ w wr.heap.size (sF (x.sel k)) v2 (U2 ++ tsS x k ++ [40, 32] ++ [67, 79, 85, 78, 84, 32]) (qF x) z2) := HZ1.o.say hO2 hK2
     clear hO2 hK2
     have HZ3 := iH (HZ2.o.below bdr)
     clear HZ0 HZ1
     go_wp2_with fail
     refine whd (fun w' => Box w' wr.heap.size (sF (x.sel k))) ?_ fun hHeld => ?_
     · exact HZ3.o.bx
     refine tkB 0 55 ?_
     refine tkB 1 56 ?_
     refine tkA 2 57 (v := ?v3) ?y3 ?_
     case y3 => (intro w' hSw; have q1 := hSw.2 1 _ rfl; go_simp; (try with_reducible rfl))
     refine tkB 5 60 ?_
     refine tkA 6 61 (v := ?v5) ?y5 ?_
     case y5 => (intro w' hSw; have q1 := hSw.2 2 _ rfl; go_simp; (try with_reducible rfl))
     try simp only [Act.put, sA, zA, cA]
     refine rdA 3 fun K hK => ?_
     go_simp
     refine (l4sayVarX v2 (w.heap.size + 1) (U2 ++ tsS x k ++ [40, 32] ++ [67, 79, 85, 78, 84, 32]) (x.sel k).of w _ HZ3.o.tx.own HVX.o.1 HZ3.o.tx.bl (Nat.le_succ _) HZ3.o.tx.lo (name_pos HNM.o.1) (by have q1 := name_len HNM.o.1; have q2 := (HVX.o.1).1.1; have l0 := HLU2.o; have l1 := HL1.o k hk; (try simp only [lA, lC, lN]); omega)).mono ?_
     rintro e z4 ⟨v4, rfl, hO4, hK4⟩
     have HZ4 : Hd (TZ w wr.heap.size (sF (x.sel k)) v4 (U2 ++ tsS x k ++ [40, 32] ++ [67, 79, 85, 78, 84, 32] ++ vTx (x.sel k).of.b) (qF x) z4) := HZ3.o.say hO4 hK4
     clear hO4 hK4
     go_wp2_with fail
     refine hK.out _ _ ?_ fun hHeld => ?_
     · exact HZ4.o.bx
     clear hK K
     try simp only [Act.put, sA, zA, cA]
     refine rdA 4 fun K hK => ?_
     go_simp
     refine (l4wordX v4 (w.heap.size + 1) (U2 ++ tsS x k ++ [40, 32] ++ [67, 79, 85, 78, 84, 32] ++ vTx (x.sel k).of.b) ⟨#[65, 83]⟩ _ HZ4.o.tx.own HZ4.o.tx.lo (by decide) (by rw [show (ByteArray.mk #[65, 83]).size = 2 from rfl]; have l0 := HLU2.o; have l1 := HL1.o k hk; have q1 := vTx_len HNM.o.1; (try simp only [lA, lC, lN]); omega)).mono ?_
     rintro e z5 ⟨v5, rfl, hO5, hK5⟩
     have HZ5 : Hd (TZ w wr.heap.size (sF (x.sel k)) v5 (U2 ++ tsS x k ++ [40, 32] ++ [67, 79, 85, 78, 84, 32] ++ vTx (x.sel k).of.b ++ [65, 83, 32]) (qF x) z5) := HZ4.o.say hO5 hK5
     clear hO5 hK5
     go_wp2_with fail
     refine hK.out _ _ ?_ fun hHeld => ?_
     · exact HZ5.o.bx
     clear hK K
     try simp only [Act.put, sA, zA, cA]
     refine rdA 7 fun K hK => ?_
     go_simp
     refine (l4sayVarX v5 (w.heap.size + 1) (U2 ++ tsS x k ++ [40, 32] ++ [67, 79, 85, 78, 84, 32] ++ vTx (x.sel k).of.b ++ [65, 83, 32]) (x.sel k).v w _ HZ5.o.tx.own HVX.o.2 HZ5.o.tx.bl (Nat.le_succ _) HZ5.o.tx.lo (name_pos HNM.o.2) (by have q1 := name_len HNM.o.2; have q2 := (HVX.o.2).1.1; have l0 := HLU2.o; have l1 := HL1.o k hk; have q3 := vTx_len HNM.o.1; (try simp only [lA, lC, lN]); omega)).mono ?_
     rintro e z6 ⟨v6, rfl, hO6, hK6⟩
     have HZ6 : Hd (TZ w wr.heap.size (sF (x.sel k)) v6 (U2 ++ tsS x k ++ [40, 32] ++ [67, 79, 85, 78, 84, 32] ++ vTx (x.sel k).of.b ++ [65, 83, 32] ++ vTx (x.sel k).v.b) (qF x) z6) := HZ5.o.say hO6 hK6
     clear hO6 hK6
     go_wp2_with fail
     refine hK.out _ _ ?_ fun hHeld => ?_
     · exact HZ6.o.bx
     clear hK K
     try simp only [Act.put, sA, zA, cA]
     refine rdA 8 fun K hK => ?_
     go_simp
     refine (l4wordX v6 (w.heap.size + 1) (U2 ++ tsS x k ++ [40, 32] ++ [67, 79, 85, 78, 84, 32] ++ vTx (x.sel k).of.b ++ [65, 83, 32] ++ vTx (x.sel k).v.b) ⟨#[41]⟩ _ HZ6.o.tx.own HZ6.o.tx.lo (by decide) (by rw [show (ByteArray.mk #[41]).size = 1 from rfl]; have l0 := HLU2.o; have l1 := HL1.o k hk; have q1 := vTx_len HNM.o.1; have q2 := vTx_len HNM.o.2; (try simp only [lA, lC, lN]); omega)).mono ?_
     rintro e z7 ⟨v7, rfl, hO7, hK7⟩
     have HZ7 : Hd (TZ w wr.heap.size (sF (x.sel k)) v7 (U2 ++ tsS x k ++ [40, 32] ++ [67, 79, 85, 78, 84, 32] ++ vTx (x.sel k).of.b ++ [65, 83, 32] ++ vTx (x.sel k).v.b ++ [41, 32]) (qF x) z7) := HZ6.o.say hO7 hK7
     clear hO7 hK7
     go_wp2_with fail
     refine hK.out _ _ ?_ fun hHeld => ?_
     · exact HZ7.o.bx
     clear hK K
     refine tkB 9 3 ?_
     refine wpAnyH_done (by kernel_rfl) ?_ _
     have HTE : Hd (TX w v7 (U2 ++ tsS x (k + 1)) (qF x) z7) := HZ7.o.tx.to (by rw [HSU.o, HSE.o]; simp)
     clear hHeld HZ3 HZ4 HZ5 HZ6 HZ7
     go_wp2
     go_roundw
     case rel => exact ⟨k + 1, v7, by omega, rfl, by go_num, HTE⟩
     case measure => simp [intOf]; omega
   have k1 : ((x.sel k).fn == 1) = false := by simp [h1]
   have HSE := iH (show selTx _ = _ by unfold selTx; rw [if_neg h0, if_neg h1])
   clear h0 h1
   go_wp2_with (with_reducible refine wpq_at ?_; refine wpList_load_mid rfl 105 _ rfl _ _ rfl (x.sel k).cl _ hcx Tryz.underlying105 rfl (by kernel_rfl) ?_; try simp only [Act.put, sA, zA, cA])
   clear hcx HTr y2
   refine (l4wordX v' (w.heap.size + 1) (U2 ++ tsS x k) ⟨#[40]⟩ _ HZ0.o.tx.own HZ0.o.tx.lo (by decide) (by rw [show (ByteArray.mk #[40]).size = 1 from rfl]; have l0 := HLU2.o; have l1 := HL1.o k hk; (try simp only [List.length_append]); omega)).mono ?_
   rintro e z1 ⟨v1, rfl, hO1, hK1⟩
   have HZ1 : Hd (TZ w wr.heap.size (sF (x.sel k)) v1 (U2 ++ tsS x k ++ [40, 32]) (qF x) z1) := HZ0.o.say hO1 hK1
   clear hO1 hK1
   go_wp2_with fail
   refine (l4wordX v1 (w.heap.size + 1) (U2 ++ tsS x k ++ [40, 32]) ⟨#[83, 85, 77]⟩ _ HZ1.o.tx.own HZ1.o.tx.lo (by decide) (by rw [show (ByteArray.mk #[83, 85, 77]).size = 3 from rfl]; have l0 := HLU2.o; have l1 := HL1.o k hk; (try simp only [lA, lC, lN]); omega)).mono ?_
   rintro e z2 ⟨v2, rfl, hO2, hK2⟩
   have HZ2 : Hd (TZ w wr.heap.size (sF (x.sel k)) v2 (U2 ++ tsS x k ++ [40, 32] ++ [83, 85, 77, 32]) (qF x) z2) := HZ1.o.say hO2 hK2
   clear hO2 hK2
   have HZ3 := iH (HZ2.o.below bdr)
   clear HZ0 HZ1
   go_wp2_with fail
   refine whd (fun w' => Box w' wr.heap.size (sF (x.sel k))) ?_ fun hHeld => ?_
   · exact HZ3.o.bx
   refine tkB 0 55 ?_
   refine tkB 1 56 ?_
   refine tkA 2 57 (v := ?v9) ?y9 ?_
   case y9 => (intro w' hSw; have q1 := hSw.2 1 _ rfl; go_simp; (try with_reducible rfl))
   refine tkB 5 60 ?_
   refine tkA 6 61 (v := ?v11) ?y11 ?_
   case y11 => (intro w' hSw; have q1 := hSw.2 2 _ rfl; go_simp; (try with_reducible rfl))
   try simp only [Act.put, sA, zA, cA]
   refine rdA 3 fun K hK => ?_
   go_simp
   refine (l4sayVarX v2 (w.heap.size + 1) (U2 ++ tsS x k ++ [40, 32] ++ [83, 85, 77, 32]) (x.sel k).of w _ HZ3.o.tx.own HVX.o.1 HZ3.o.tx.bl (Nat.le_succ _) HZ3.o.tx.lo (name_pos HNM.o.1) (by have q1 := name_len HNM.o.1; have q2 := (HVX.o.1).1.1; have l0 := HLU2.o; have l1 := HL1.o k hk; (try simp only [lA, lC, lN]); omega)).mono ?_
   rintro e z4 ⟨v4, rfl, hO4, hK4⟩
   have HZ4 : Hd (TZ w wr.heap.size (sF (x.sel k)) v4 (U2 ++ tsS x k ++ [40, 32] ++ [83, 85, 77, 32] ++ vTx (x.sel k).of.b) (qF x) z4) := HZ3.o.say hO4 hK4
   clear hO4 hK4
   go_wp2_with fail
   refine hK.out _ _ ?_ fun hHeld => ?_
   · exact HZ4.o.bx
   clear hK K
   try simp only [Act.put, sA, zA, cA]
   refine rdA 4 fun K hK => ?_
   go_simp
   refine (l4wordX v4 (w.heap.size + 1) (U2 ++ tsS x k ++ [40, 32] ++ [83, 85, 77, 32] ++ vTx (x.sel k).of.b) ⟨#[65, 83]⟩ _ HZ4.o.tx.own HZ4.o.tx.lo (by decide) (by rw [show (ByteArray.mk #[65, 83]).size = 2 from rfl]; have l0 := HLU2.o; have l1 := HL1.o k hk; have q1 := vTx_len HNM.o.1; (try simp only [lA, lC, lN]); omega)).mono ?_
   rintro e z5 ⟨v5, rfl, hO5, hK5⟩
   have HZ5 : Hd (TZ w wr.heap.size (sF (x.sel k)) v5 (U2 ++ tsS x k ++ [40, 32] ++ [83, 85, 77, 32] ++ vTx (x.sel k).of.b ++ [65, 83, 32]) (qF x) z5) := HZ4.o.say hO5 hK5
   clear hO5 hK5
   go_wp2_with fail
   refine hK.out _ _ ?_ fun hHeld => ?_
   · exact HZ5.o.bx
   clear hK K
   try simp only [Act.put, sA, zA, cA]
   refine rdA 7 fun K hK => ?_
   go_simp
   refine (l4sayVarX v5 (w.heap.size + 1) (U2 ++ tsS x k ++ [40, 32] ++ [83, 85, 77, 32] ++ vTx (x.sel k).of.b ++ [65, 83, 32]) (x.sel k).v w _ HZ5.o.tx.own HVX.o.2 HZ5.o.tx.bl (Nat.le_succ _) HZ5.o.tx.lo (name_pos HNM.o.2) (by have q1 := name_len HNM.o.2; have q2 := (HVX.o.2).1.1; have l0 := HLU2.o; have l1 := HL1.o k hk; have q3 := vTx_len HNM.o.1; (try simp only [lA, lC, lN]); omega)).mono ?_
   rintro e z6 ⟨v6, rfl, hO6, hK6⟩
   have HZ6 : Hd (TZ w wr.heap.size (sF (x.sel k)) v6 (U2 ++ tsS x k ++ [40, 32] ++ [83, 85, 77, 32] ++ vTx (x.sel k).of.b ++ [65, 83, 32] ++ vTx (x.sel k).v.b) (qF x) z6) := HZ5.o.say hO6 hK6
   clear hO6 hK6
   go_wp2_with fail
   refine hK.out _ _ ?_ fun hHeld => ?_
   · exact HZ6.o.bx
   clear hK K
   try simp only [Act.put, sA, zA, cA]
   refine rdA 8 fun K hK => ?_
   go_simp
   refine (l4wordX v6 (w.heap.size + 1) (U2 ++ tsS x k ++ [40, 32] ++ [83, 85, 77, 32] ++ vTx (x.sel k).of.b ++ [65, 83, 32] ++ vTx (x.sel k).v.b) ⟨#[41]⟩ _ HZ6.o.tx.own HZ6.o.tx.lo (by decide) (by rw [show (ByteArray.mk #[41]).size = 1 from rfl]; have l0 := HLU2.o; have l1 := HL1.o k hk; have q1 := vTx_len HNM.o.1; have q2 := vTx_len HNM.o.2; (try simp only [lA, lC, lN]); omega)).mono ?_
   rintro e z7 ⟨v7, rfl, hO7, hK7⟩
   have HZ7 : Hd (TZ w wr.heap.size (sF (x.sel k)) v7 (U2 ++ tsS x k ++ [40, 32] ++ [83, 85, 77, 32] ++ vTx (x.sel k).of.b ++ [65, 83, 32] ++ vTx (x.sel k).v.b ++ [41, 32]) (qF x) z7) := HZ6.o.say hO7 hK7
   clear hO7 hK7
   go_wp2_with fail
   refine hK.out _ _ ?_ fun hHeld => ?_
   · exact HZ7.o.bx
   clear hK K
   refine tkB 9 3 ?_
   refine wpAnyH_done (by kernel_rfl) ?_ _
   have HTE : Hd (TX w v7 (U2 ++ tsS x (k + 1)) (qF x) z7) := HZ7.o.tx.to (by rw [HSU.o, HSE.o]; simp)
   clear hHeld HZ3 HZ4 HZ5 HZ6 HZ7
   go_wp2
   go_roundw
   case rel => exact ⟨k + 1, v7, by omega, rfl, by go_num, HTE⟩
   case measure => simp [intOf]; omega
 obtain rfl : k = x.sn := by omega
 have hlkz : ¬ (x.sn : Int) < (x.sn : Int) := by omega
 go_wp2_with fail
 have HT3 := iH (HTr.o.below bdr)
 refine whd (fun w' => Box w' w.heap.size (qF x)) ?_ fun hHeld => ?_
 · exact HT3.o.bx
 refine tkB 0 64 ?_
 refine tkB 2 66 ?_
 refine tkA 3 67 (v := ?v15) ?y15 ?_
 case y15 => (intro w' hSw; have q1 := hSw.2 3 _ rfl; go_simp; (try with_reducible rfl))
 try simp only [Act.put, sA, zA, cA]
 refine rdA 1 fun K hK => ?_
 go_simp
 refine (l4wordX v' (w.heap.size + 1) (U2 ++ tsS x x.sn) ⟨#[87, 72, 69, 82, 69]⟩ _ HT3.o.own HT3.o.lo (by decide) (by rw [show (ByteArray.mk #[87, 72, 69, 82, 69]).size = 5 from rfl]; have l0 := HLU2.o; have l1 := HL1.o x.sn nR; (try simp only [List.length_append]); omega)).mono ?_
 rintro e z4 ⟨v4, rfl, hO4, hK4⟩
 have HT4 : Hd (TY w v4 (U2 ++ tsS x x.sn ++ [87, 72, 69, 82, 69, 32]) (qF x) z4) := HT3.o.say hO4 hK4
 clear hO4 hK4
 go_wp2_with fail
 refine hK.out _ _ ?_ fun hHeld => ?_
 · exact HT4.o.tx.bx
 clear hK K
 try simp only [Act.put, sA, zA, cA]
 refine rdA 4 fun K hK => ?_
 go_simp
 refine (HSG.o v4 (U2 ++ tsS x x.sn ++ [87, 72, 69, 82, 69, 32]) _ HT4.o.tx.own HT4.o.tx.bl HT4.o.tx.lo (by have l0 := HLU2.o; have l1 := HL1.o x.sn nR; (try simp only [lA, lC, lN]); omega)).mono ?_
 rintro e z5 ⟨v5, rfl, hO5, hK5⟩
 have HT5 := iH (HT4.o.tx.say hO5 hK5)
 clear hO5 hK5
 go_wp2_with fail
 refine hK.out _ _ ?_ fun hHeld => ?_
 · exact HT5.o.tx.bx
 clear hK K
 refine tkB 5 3 ?_
 refine wpAnyH_done (by kernel_rfl) ?_ _
 clear hHeld HT3 HT4 HTr y2
 obtain ⟨U5, hU5⟩ : ∃ U5, U5 = U2 ++ tsS x x.sn ++ [87, 72, 69, 82, 69, 32] ++ gTx x.bn x.body := ⟨_, rfl⟩
 have HLU5 : Hd (U5.length ≤ 84400) := (show _ ≤ _ by have l4 := HLg.o; have l0 := HLU2.o; have l1 := HL1.o x.sn nR; rw [hU5]; simp only [lA, lC, lN]; omega)
 rw [← hU5] at HT5 HTX
 clear hU5 HLU2 HL1 HLg HSG
 have yy := HT5.o.tx.bx.2 4 _ rfl
 go_upto_if 72 with fail
 go_cut [3] from 69 (fun s3 wx => ∃ v, v = s3 ∧ Hd (TY w v (U5 ++ grpTx x) (qF x) wx))
 case first =>
  by_cases hz : 0 < x.gn
  · have HDE := iH (show grpTx x = _ by unfold grpTx; rw [if_pos hz])
    have hzz : (x.gn : Int) > 0 := by omega
    clear hz
    go_wp2_with fail
    refine (l4wordX v5 (w.heap.size + 1) (U5) ⟨#[71, 82, 79, 85, 80]⟩ _ HT5.o.tx.own HT5.o.tx.lo (by decide) (by rw [show (ByteArray.mk #[71, 82, 79, 85, 80]).size = 5 from rfl]; have l0 := HLU5.o; (try simp only [lA, lC, lN]); omega)).mono ?_
    rintro e z1 ⟨v1, rfl, hO1, hK1⟩
    have HTE : Hd (TY w v1 (U5 ++ grpTx x) (qF x) z1) := (HT5.o.tx.say hO1 hK1).to (by rw [HDE.o]; rfl)
    clear hO1 hK1 HT5 yy
    go_wp2_with fail
    go_meet
    case rel => exact ⟨_, rfl, HTE⟩
  have HTE : Hd (TY w v5 (U5 ++ grpTx x) (qF x) z5) := HT5.o.to (by unfold grpTx; rw [if_neg hz, List.append_nil])
  have hzz : ¬ (x.gn : Int) > 0 := by omega
  clear hz HT5
  go_wp2_with fail
  go_meet
  case rel => exact ⟨_, rfl, HTE⟩
 obtain ⟨v6, rfl, HT6⟩ := hcut
 clear HT5 yy
 obtain ⟨U6, hU6⟩ : ∃ U6, U6 = U5 ++ grpTx x := ⟨_, rfl⟩
 have HLU6 : Hd (U6.length ≤ 84406) := (show _ ≤ _ by have l0 := HLU5.o; have l1 := HLp.o; rw [hU6]; simp only [List.length_append]; omega)
 rw [← hU6] at HT6 HTX
 clear hU6 HLU5 HLp
 go_wp2_with fail
 go_loopw [3, 6] (fun b i wr => ∃ (k : Nat) (v' : Value), k ≤ x.gn ∧ v' = b ∧ i = .int .i64 k ∧ Hd (TY w v' (U6 ++ tsG x k) (qF x) wr)) (fun _ i _ => x.gn - (intOf i).toNat)
 case atStart => exact ⟨0, v6, nZ, rfl, rfl, HT6.o.to (by show _ = U6 ++ []; rw [List.append_nil])⟩
 clear HT6
 obtain ⟨j, va, hj, rfl, rfl, HTj⟩ := hrel
 have y4 := HTj.o.tx.bx.2 4 _ rfl
 by_cases hlj : j < x.gn
 · have hljz : (j : Int) < (x.gn : Int) := by omega
   have hj4 : j < 4 := by have := HG4.o; omega
   obtain ⟨b, off, hga, _, hlt, hck⟩ := HRG.o.resolve_left (by omega)
   rw [hga] at y4
   have cx := (HTj.o.tx.bl.cell (p := ⟨b, off + j, none⟩) hlt).trans (by have h1 := hck j hlj 0 _ rfl; simpa using h1)
   have HVG := iH (HGL.o j hlj)
   have HNG := iH (HGN.o j hlj)
   clear hga hck
   go_wp2_with fail
   refine (l4sayVarX va (w.heap.size + 1) (U6 ++ tsG x j) (x.grp j) w _ HTj.o.tx.own HVG.o HTj.o.tx.bl (Nat.le_succ _) HTj.o.tx.lo (name_pos HNG.o) (by have q1 := name_len HNG.o; have q2 := (HVG.o).1.1; have l0 := HLU6.o; have l1 := HL2.o j hj; (try simp only [List.length_append]); omega)).mono ?_
   rintro e z1 ⟨v1, rfl, hO1, hK1⟩
   have HTE : Hd (TY w v1 (U6 ++ tsG x (j + 1)) (qF x) z1) := (HTj.o.tx.say hO1 hK1).to (by show _ = U6 ++ (tsG x j ++ vTx (x.grp j).b); simp [vTx])
   clear hO1 hK1 HTj y4 cx
   go_wp2
   go_roundw
   case rel => exact ⟨j + 1, v1, by omega, rfl, by go_num, HTE⟩
   case measure => simp [intOf]; omega
 obtain rfl : j = x.gn := by omega
 have hljz : ¬ (x.gn : Int) < (x.gn : Int) := by omega
 have yy := HTj.o.tx.bx.2 5 _ rfl
 go_upto_if 92 with fail
 go_cut [3] from 89 (fun s3 wx => ∃ v, v = s3 ∧ Hd (TY w v (U6 ++ tsG x x.gn ++ ordTx x) (qF x) wx))
 case first =>
  by_cases hz : 0 < x.on
  · have HDE := iH (show ordTx x = _ by unfold ordTx; rw [if_pos hz])
    have hzz : (x.on : Int) > 0 := by omega
    clear hz
    go_wp2_with fail
    refine (l4wordX va (w.heap.size + 1) (U6 ++ tsG x x.gn) ⟨#[79, 82, 68, 69, 82]⟩ _ HTj.o.tx.own HTj.o.tx.lo (by decide) (by rw [show (ByteArray.mk #[79, 82, 68, 69, 82]).size = 5 from rfl]; have l0 := HLU6.o; have l1 := HL2.o x.gn nR; (try simp only [List.length_append]); omega)).mono ?_
    rintro e z1 ⟨v1, rfl, hO1, hK1⟩
    have HTE : Hd (TY w v1 (U6 ++ tsG x x.gn ++ ordTx x) (qF x) z1) := (HTj.o.tx.say hO1 hK1).to (by rw [HDE.o]; rfl)
    clear hO1 hK1 HTj yy
    go_wp2_with fail
    go_meet
    case rel => exact ⟨_, rfl, HTE⟩
  have HTE : Hd (TY w va (U6 ++ tsG x x.gn ++ ordTx x) (qF x) wr) := HTj.o.to (by unfold ordTx; rw [if_neg hz, List.append_nil])
  have hzz : ¬ (x.on : Int) > 0 := by omega
  clear hz HTj
  go_wp2_with fail
  go_meet
  case rel => exact ⟨_, rfl, HTE⟩
 obtain ⟨v8, rfl, HT8⟩ := hcut
 clear HTj yy y4 hljz hj hlj
 obtain ⟨U8, hU8⟩ : ∃ U8, U8 = U6 ++ tsG x x.gn ++ ordTx x := ⟨_, rfl⟩
 have HLU8 : Hd (U8.length ≤ 84470) := (show _ ≤ _ by have l0 := HLU6.o; have l1 := HL2.o x.gn nR; have l2 := HLo.o; rw [hU8]; simp only [List.length_append]; omega)
 rw [← hU8] at HT8 HTX
 clear hU8 HLU6 HL2 HLo
 go_wp2_with fail
 go_loopw [3, 7] (fun b i wr => ∃ (k : Nat) (v' : Value), k ≤ x.on ∧ v' = b ∧ i = .int .i64 k ∧ Hd (TY w v' (U8 ++ tsK x k) (qF x) wr)) (fun _ i _ => x.on - (intOf i).toNat)
 case atStart => exact ⟨0, v8, nZ, rfl, rfl, HT8.o.to (by show _ = U8 ++ []; rw [List.append_nil])⟩
 clear HT8
 obtain ⟨j, va, hj, rfl, rfl, HTj⟩ := hrel
 have y5 := HTj.o.tx.bx.2 5 _ rfl
 by_cases hlj : j < x.on
 · have hljz : (j : Int) < (x.on : Int) := by omega
   have hj4 : j < 4 := by have := HO4.o; omega
   obtain ⟨b, off, hoa, _, hlt, hck⟩ := HRO.o.resolve_left (by omega)
   have HOA := iH hoa
   rw [hoa] at y5
   obtain ⟨dd, hdd⟩ : ∃ dd, dd = (x.key j).down := ⟨_, rfl⟩
   have c1 : wr.cell? ⟨b, off + j * 2 + 1, none⟩ = some (.bool dd) := (HTj.o.tx.bl.cell (p := ⟨b, off + j * 2 + 1, none⟩) hlt).trans (by rw [hdd]; exact hck j hlj 1 _ rfl)
   have HC0 := iH (fun W (hb : Bl w W) => (hb.cell (p := ⟨b, off + j * 2, none⟩) hlt).trans (by have h1 := hck j hlj 0 _ rfl; simpa using h1))
   have c0 := HC0.o wr HTj.o.tx.bl
   have HVG := iH (HOL.o j hlj)
   have HNG := iH (HON.o j hlj)
   have HDD := iH hdd.symm
   clear hoa hck hdd
   cases dd
   · have HKE : Hd (keyTx (x.key j) = vTx (x.key j).v.b) := (show keyTx _ = _ by unfold keyTx; rw [if_neg (by rw [HDD.o]; simp)]; rfl)
     go_wp2_with fail
     refine (l4sayVarX va (w.heap.size + 1) (U8 ++ tsK x j) (x.key j).v w _ HTj.o.tx.own HVG.o HTj.o.tx.bl (Nat.le_succ _) HTj.o.tx.lo (name_pos HNG.o) (by have q1 := name_len HNG.o; have q2 := (HVG.o).1.1; have l0 := HLU8.o; have l1 := HL3.o j hj; (try simp only [List.length_append]); omega)).mono ?_
     rintro e z1 ⟨v1, rfl, hO1, hK1⟩
     have HTE : Hd (TY w v1 (U8 ++ tsK x (j + 1)) (qF x) z1) := (HTj.o.tx.say hO1 hK1).to (by show _ = U8 ++ (tsK x j ++ keyTx (x.key j)); rw [HKE.o]; simp [vTx])
     clear hO1 hK1 HTj y5 c0 c1
     go_wp2
     go_roundw
     case rel => exact ⟨j + 1, v1, by omega, rfl, by go_num, HTE⟩
     case measure => simp [intOf]; omega
   have HKE := iH (show keyTx _ = _ by unfold keyTx; rw [if_pos HDD.o])
   go_wp2_with fail
   refine (l4wordX va (w.heap.size + 1) (U8 ++ tsK x j) ⟨#[45]⟩ _ HTj.o.tx.own HTj.o.tx.lo (by decide) (by rw [show (ByteArray.mk #[45]).size = 1 from rfl]; have l0 := HLU8.o; have l1 := HL3.o j hj; (try simp only [List.length_append]); omega)).mono ?_
   rintro e z0 ⟨v0, rfl, hO0, hK0⟩
   have HT0 : Hd (TY w v0 (U8 ++ tsK x j ++ [45, 32]) (qF x) z0) := HTj.o.tx.say hO0 hK0
   clear hO0 hK0 HTj y5 c0 c1
   have y5 := HT0.o.tx.bx.2 5 _ rfl
   rw [HOA.o] at y5
   have c0 := HC0.o z0 HT0.o.tx.bl
   go_wp2_with fail
   refine (l4sayVarX v0 (w.heap.size + 1) (U8 ++ tsK x j ++ [45, 32]) (x.key j).v w _ HT0.o.tx.own HVG.o HT0.o.tx.bl (Nat.le_succ _) HT0.o.tx.lo (name_pos HNG.o) (by have q1 := name_len HNG.o; have q2 := (HVG.o).1.1; have l0 := HLU8.o; have l1 := HL3.o j hj; (try simp only [lA, lC, lN]); omega)).mono ?_
   rintro e z1 ⟨v1, rfl, hO1, hK1⟩
   have HTE : Hd (TY w v1 (U8 ++ tsK x (j + 1)) (qF x) z1) := (HT0.o.tx.say hO1 hK1).to (by show _ = U8 ++ (tsK x j ++ keyTx (x.key j)); rw [HKE.o]; simp [vTx])
   clear hO1 hK1 HT0 y5 c0
   go_wp2
   go_roundw
   case rel => exact ⟨j + 1, v1, by omega, rfl, by go_num, HTE⟩
   case measure => simp [intOf]; omega
 obtain rfl : j = x.on := by omega
 have hljz : ¬ (x.on : Int) < (x.on : Int) := by omega
 obtain ⟨U9, hU9⟩ : ∃ U9, U9 = U8 ++ tsK x x.on := ⟨_, rfl⟩
 have HLU9 : Hd (U9.length ≤ 84540) := (show _ ≤ _ by have l0 := HLU8.o; have l1 := HL3.o x.on nR; rw [hU9]; simp only [List.length_append]; omega)
 rw [← hU9] at HTj HTX
 clear hU9 HLU8 HL3
 have yy := HTj.o.tx.bx.2 6 _ rfl
 go_upto_if 120 with fail
 go_cut [3] from 118 (fun s3 wx => ∃ v, v = s3 ∧ Hd (TY w v (U9 ++ limTx x) (qF x) wx))
 case first =>
  by_cases hz : x.lim ≥ 0
  · have HDE := iH (show limTx x = _ by unfold limTx; rw [if_pos hz])
    have hzz := hz
    have HDG : Hd (∀ W, Cl 69 #[.int .i64 x.lim] W fun e w' => DigRes W (digitsL x.lim.toNat) e w') := fun W => by
     have h1 := l1digits_any x.lim.toNat W (by have := HNL.o; omega)
     rwa [Int.toNat_of_nonneg (by omega)] at h1
    have HDL : Hd (1 ≤ (digitsL x.lim.toNat).length ∧ (digitsL x.lim.toNat).length ≤ 20) := digits_most (by have := HNL.o; omega)
    have HTd := iH (HTj.o.below bdr)
    clear hz
    go_wp2_with fail
    clear yy HTj y5
    refine whd (fun w' => Box w' w.heap.size (qF x)) ?_ fun hHeld => ?_
    · exact HTd.o.tx.bx
    refine tkB 0 121 ?_
    refine tkB 2 123 ?_
    refine tkA 3 124 (v := ?v19) ?y19 ?_
    case y19 => (intro w' hSw; have q1 := hSw.2 6 _ rfl; go_simp; (try with_reducible rfl))
    try simp only [Act.put, sA, zA, cA]
    refine wpAnyH_ready (rs := [1, 6]) (by kernel_rfl) (by simp) ?_
    refine (AllReadyH.cons rfl (fun K hK => ?_) (AllReadyH.cons rfl (fun K hK => ?_) AllReadyH.nil))
    · go_simp
      refine (l4wordX va (w.heap.size + 1) (U9) ⟨#[76, 73, 77, 73, 84]⟩ _ HTd.o.tx.own HTd.o.tx.lo (by decide) (by rw [show (ByteArray.mk #[76, 73, 77, 73, 84]).size = 5 from rfl]; have l0 := HLU9.o; (try simp only [lA, lC, lN]); omega)).mono ?_
      rintro e z20 ⟨v20, rfl, hO20, hK20⟩
      have HT20 : Hd (TY w v20 (U9 ++ [76, 73, 77, 73, 84, 32]) (qF x) z20) := HTd.o.tx.say hO20 hK20
      clear hO20 hK20
      go_wp2_with fail
      refine hK.out _ _ ?_ fun hHeld => ?_
      · exact HT20.o.tx.bx
      clear hK K
      try simp only [Act.put, sA, zA, cA]
      refine wpAnyH_ready (rs := [4, 6]) (by kernel_rfl) (by simp) ?_
      refine (AllReadyH.cons rfl (fun K hK => ?_) (AllReadyH.cons rfl (fun K hK => ?_) AllReadyH.nil))
      · go_simp
        refine (HDG.o _).mono ?_
        rintro e z21 ⟨g21, c21, rfl, hR21, hb21⟩
        have HT21 := iH (HT20.o.below hb21)
        have HD21 := iH (hR21.src HT20.o.own)
        clear hR21 hb21
        go_wp2_with fail
        refine hK.out _ _ ?_ fun hHeld => ?_
        · exact HT21.o.tx.bx
        clear hK K
        try simp only [Act.put, sA, zA, cA]
        refine wpAnyH_ready (rs := [5, 6]) (by kernel_rfl) (by simp) ?_
        refine (AllReadyH.cons rfl (fun K hK => ?_) (AllReadyH.cons rfl (fun K hK => ?_) AllReadyH.nil))
        · refine step_app8k rfl 126 rfl (.tmp 122) (.tmp 125) rfl (w.heap.size + 1) v20 (U9 ++ [76, 73, 77, 73, 84, 32]) rfl HT21.o.own g21 _ c21 (digitsL x.lim.toNat) rfl rfl HD21 HDL.o.1 (by have l0 := HLU9.o; have q9 := HDL.o.2; (try simp only [lA, lC, lN]); omega) HT21.o.tx.lo ?_
          intro v22 z22 HO22 HK22
          have HT22 := iH (HT21.o.tx.say HO22.o HK22.o)
          clear HO22 HK22
          refine hK.out _ _ ?_ fun hHeld => ?_
          · exact HT22.o.tx.bx
          clear hK K
          try simp only [Act.put, sA, zA, cA]
          refine rdA 6 fun K hK => ?_
          go_simp
          have HT23 : Hd (TY w v22 (U9 ++ [76, 73, 77, 73, 84, 32] ++ (digitsL x.lim.toNat)) (qF x) (z22.alloc (.cells #[.int .u8 32] 5))) := HT22.o.below (bl_a _)
          have HP23 : Hd (Src8 (z22.alloc (.cells #[.int .u8 32] 5)) v22 z22.heap.size [32]) := ⟨by simp, HT22.o.own.off1, one_news z22 32⟩
          refine hK.out _ _ ?_ fun hHeld => ?_
          · exact HT23.o.tx.bx
          clear hK K
          try simp only [Act.put, sA, zA, cA]
          refine rdA 7 fun K hK => ?_
          refine step_app8k rfl 128 rfl (.tmp 126) (.tmp 127) rfl (w.heap.size + 1) v22 (U9 ++ [76, 73, 77, 73, 84, 32] ++ (digitsL x.lim.toNat)) rfl HT23.o.own z22.heap.size 1 1 [32] rfl rfl HP23 (by omega) (by have l0 := HLU9.o; have q9 := HDL.o.2; (try simp only [lA, lC, lN]); omega) HT23.o.tx.lo ?_
          intro v24 z24 HO24 HK24
          have HT24 : Hd (TY w v24 (U9 ++ limTx x) (qF x) z24) := (HT23.o.tx.say (bs' := U9 ++ [76, 73, 77, 73, 84, 32] ++ (digitsL x.lim.toNat) ++ [32]) HO24.o HK24.o).to (by rw [HDE.o]; simp [numTx])
          clear HO24 HK24
          refine hK.out _ _ ?_ fun hHeld => ?_
          · exact HT24.o.tx.bx
          clear hK K
          refine tkB 8 3 ?_
          refine wpAnyH_done (by kernel_rfl) ?_ _
          clear hHeld
          go_wp2_with fail
          go_meet
          case rel => exact ⟨_, rfl, HT24⟩
        go_simp
        have HT25 : Hd (TY w v20 (U9 ++ [76, 73, 77, 73, 84, 32]) (qF x) (z21.alloc (.cells #[.int .u8 32] 5))) := HT21.o.below (bl_a _)
        have HP25 : Hd (Src8 (z21.alloc (.cells #[.int .u8 32] 5)) v20 z21.heap.size [32]) := ⟨by simp, HT21.o.own.off1, one_news z21 32⟩
        have HD25 : Hd (Src8 (z21.alloc (.cells #[.int .u8 32] 5)) v20 g21 (digitsL x.lim.toNat)) := HD21.o.below (bl_a _)
        refine hK.out _ _ ?_ fun hHeld => ?_
        · exact HT25.o.tx.bx
        clear hK K
        try simp only [Act.put, sA, zA, cA]
        refine rdA 5 fun K hK => ?_
        refine step_app8k rfl 126 rfl (.tmp 122) (.tmp 125) rfl (w.heap.size + 1) v20 (U9 ++ [76, 73, 77, 73, 84, 32]) rfl HT25.o.own g21 _ c21 (digitsL x.lim.toNat) rfl rfl HD25 HDL.o.1 (by have l0 := HLU9.o; have q9 := HDL.o.2; (try simp only [lA, lC, lN]); omega) HT25.o.tx.lo ?_
        intro v26 z26 HO26 HK26
        have HT26 := iH (HT25.o.tx.say HO26.o HK26.o)
        have HP26 := iH (HP25.o.kp HK26.o)
        clear HO26 HK26
        refine hK.out _ _ ?_ fun hHeld => ?_
        · exact HT26.o.tx.bx
        clear hK K
        try simp only [Act.put, sA, zA, cA]
        refine rdA 7 fun K hK => ?_
        refine step_app8k rfl 128 rfl (.tmp 126) (.tmp 127) rfl (w.heap.size + 1) v26 (U9 ++ [76, 73, 77, 73, 84, 32] ++ (digitsL x.lim.toNat)) rfl HT26.o.own z21.heap.size 1 1 [32] rfl rfl HP26 (by omega) (by have l0 := HLU9.o; have q9 := HDL.o.2; (try simp only [lA, lC, lN]); omega) HT26.o.tx.lo ?_
        intro v27 z27 HO27 HK27
        have HT27 : Hd (TY w v27 (U9 ++ limTx x) (qF x) z27) := (HT26.o.tx.say (bs' := U9 ++ [76, 73, 77, 73, 84, 32] ++ (digitsL x.lim.toNat) ++ [32]) HO27.o HK27.o).to (by rw [HDE.o]; simp [numTx])
        clear HO27 HK27
        refine hK.out _ _ ?_ fun hHeld => ?_
        · exact HT27.o.tx.bx
        clear hK K
        refine tkB 8 3 ?_
        refine wpAnyH_done (by kernel_rfl) ?_ _
        clear hHeld
        go_wp2_with fail
        go_meet
        case rel => exact ⟨_, rfl, HT27⟩
      go_simp
      have HT28 : Hd (TY w v20 (U9 ++ [76, 73, 77, 73, 84, 32]) (qF x) (z20.alloc (.cells #[.int .u8 32] 5))) := HT20.o.below (bl_a _)
      have HP28 : Hd (Src8 (z20.alloc (.cells #[.int .u8 32] 5)) v20 z20.heap.size [32]) := ⟨by simp, HT20.o.own.off1, one_news z20 32⟩
      refine hK.out _ _ ?_ fun hHeld => ?_
      · exact HT28.o.tx.bx
      clear hK K
      try simp only [Act.put, sA, zA, cA]
      refine rdA 4 fun K hK => ?_
      go_simp
      refine (HDG.o _).mono ?_
      rintro e z29 ⟨g29, c29, rfl, hR29, hb29⟩
      have HT29 := iH (HT28.o.below hb29)
      have HD29 := iH (hR29.src HT28.o.own)
      have HP29 := iH (HP28.o.below hb29)
      clear hR29 hb29
      go_wp2_with fail
      refine hK.out _ _ ?_ fun hHeld => ?_
      · exact HT29.o.tx.bx
      clear hK K
      try simp only [Act.put, sA, zA, cA]
      refine rdA 5 fun K hK => ?_
      refine step_app8k rfl 126 rfl (.tmp 122) (.tmp 125) rfl (w.heap.size + 1) v20 (U9 ++ [76, 73, 77, 73, 84, 32]) rfl HT29.o.own g29 _ c29 (digitsL x.lim.toNat) rfl rfl HD29 HDL.o.1 (by have l0 := HLU9.o; have q9 := HDL.o.2; (try simp only [lA, lC, lN]); omega) HT29.o.tx.lo ?_
      intro v30 z30 HO30 HK30
      have HT30 := iH (HT29.o.tx.say HO30.o HK30.o)
      have HP30 := iH (HP29.o.kp HK30.o)
      clear HO30 HK30
      refine hK.out _ _ ?_ fun hHeld => ?_
      · exact HT30.o.tx.bx
      clear hK K
      try simp only [Act.put, sA, zA, cA]
      refine rdA 7 fun K hK => ?_
      refine step_app8k rfl 128 rfl (.tmp 126) (.tmp 127) rfl (w.heap.size + 1) v30 (U9 ++ [76, 73, 77, 73, 84, 32] ++ (digitsL x.lim.toNat)) rfl HT30.o.own z20.heap.size 1 1 [32] rfl rfl HP30 (by omega) (by have l0 := HLU9.o; have q9 := HDL.o.2; (try simp only [lA, lC, lN]); omega) HT30.o.tx.lo ?_
      intro v31 z31 HO31 HK31
      have HT31 : Hd (TY w v31 (U9 ++ limTx x) (qF x) z31) := (HT30.o.tx.say (bs' := U9 ++ [76, 73, 77, 73, 84, 32] ++ (digitsL x.lim.toNat) ++ [32]) HO31.o HK31.o).to (by rw [HDE.o]; simp [numTx])
      clear HO31 HK31
      refine hK.out _ _ ?_ fun hHeld => ?_
      · exact HT31.o.tx.bx
      clear hK K
      refine tkB 8 3 ?_
      refine wpAnyH_done (by kernel_rfl) ?_ _
      clear hHeld
      go_wp2_with fail
      go_meet
      case rel => exact ⟨_, rfl, HT31⟩
    go_simp
    have HT32 : Hd (TY w va (U9) (qF x) (wr.drew.alloc (.cells #[.int .u8 32] 5))) := HTd.o.below (bl_a _)
    have HP32 : Hd (Src8 (wr.drew.alloc (.cells #[.int .u8 32] 5)) va wr.drew.heap.size [32]) := ⟨by simp, HTd.o.own.off1, one_news wr.drew 32⟩
    refine hK.out _ _ ?_ fun hHeld => ?_
    · exact HT32.o.tx.bx
    clear hK K
    try simp only [Act.put, sA, zA, cA]
    refine rdA 1 fun K hK => ?_
    go_simp
    refine (l4wordX va (w.heap.size + 1) (U9) ⟨#[76, 73, 77, 73, 84]⟩ _ HT32.o.tx.own HT32.o.tx.lo (by decide) (by rw [show (ByteArray.mk #[76, 73, 77, 73, 84]).size = 5 from rfl]; have l0 := HLU9.o; (try simp only [lA, lC, lN]); omega)).mono ?_
    rintro e z33 ⟨v33, rfl, hO33, hK33⟩
    have HT33 : Hd (TY w v33 (U9 ++ [76, 73, 77, 73, 84, 32]) (qF x) z33) := HT32.o.tx.say hO33 hK33
    have HP33 := iH (HP32.o.kp hK33)
    clear hO33 hK33
    go_wp2_with fail
    refine hK.out _ _ ?_ fun hHeld => ?_
    · exact HT33.o.tx.bx
    clear hK K
    try simp only [Act.put, sA, zA, cA]
    refine rdA 4 fun K hK => ?_
    go_simp
    refine (HDG.o _).mono ?_
    rintro e z34 ⟨g34, c34, rfl, hR34, hb34⟩
    have HT34 := iH (HT33.o.below hb34)
    have HD34 := iH (hR34.src HT33.o.own)
    have HP34 := iH (HP33.o.below hb34)
    clear hR34 hb34
    go_wp2_with fail
    refine hK.out _ _ ?_ fun hHeld => ?_
    · exact HT34.o.tx.bx
    clear hK K
    try simp only [Act.put, sA, zA, cA]
    refine rdA 5 fun K hK => ?_
    refine step_app8k rfl 126 rfl (.tmp 122) (.tmp 125) rfl (w.heap.size + 1) v33 (U9 ++ [76, 73, 77, 73, 84, 32]) rfl HT34.o.own g34 _ c34 (digitsL x.lim.toNat) rfl rfl HD34 HDL.o.1 (by have l0 := HLU9.o; have q9 := HDL.o.2; (try simp only [lA, lC, lN]); omega) HT34.o.tx.lo ?_
    intro v35 z35 HO35 HK35
    have HT35 := iH (HT34.o.tx.say HO35.o HK35.o)
    have HP35 := iH (HP34.o.kp HK35.o)
    clear HO35 HK35
    refine hK.out _ _ ?_ fun hHeld => ?_
    · exact HT35.o.tx.bx
    clear hK K
    try simp only [Act.put, sA, zA, cA]
    refine rdA 7 fun K hK => ?_
    refine step_app8k rfl 128 rfl (.tmp 126) (.tmp 127) rfl (w.heap.size + 1) v35 (U9 ++ [76, 73, 77, 73, 84, 32] ++ (digitsL x.lim.toNat)) rfl HT35.o.own wr.drew.heap.size 1 1 [32] rfl rfl HP35 (by omega) (by have l0 := HLU9.o; have q9 := HDL.o.2; (try simp only [lA, lC, lN]); omega) HT35.o.tx.lo ?_
    intro v36 z36 HO36 HK36
    have HT36 : Hd (TY w v36 (U9 ++ limTx x) (qF x) z36) := (HT35.o.tx.say (bs' := U9 ++ [76, 73, 77, 73, 84, 32] ++ (digitsL x.lim.toNat) ++ [32]) HO36.o HK36.o).to (by rw [HDE.o]; simp [numTx])
    clear HO36 HK36
    refine hK.out _ _ ?_ fun hHeld => ?_
    · exact HT36.o.tx.bx
    clear hK K
    refine tkB 8 3 ?_
    refine wpAnyH_done (by kernel_rfl) ?_ _
    clear hHeld
    go_wp2_with fail
    go_meet
    case rel => exact ⟨_, rfl, HT36⟩
  have HTE : Hd (TY w va (U9 ++ limTx x) (qF x) wr) := HTj.o.to (by unfold limTx; rw [if_neg hz, List.append_nil])
  have hzz := hz
  clear hz HTj
  go_wp2_with fail
  go_meet
  case rel => exact ⟨_, rfl, HTE⟩
 obtain ⟨v10, rfl, HT10⟩ := hcut
 clear HTj yy y5 hljz hj hlj
 obtain ⟨U10, hU10⟩ : ∃ U10, U10 = U9 ++ limTx x := ⟨_, rfl⟩
 have HLU10 : Hd (U10.length ≤ 84570) := (show _ ≤ _ by have l0 := HLU9.o; have l1 := HLl.o; rw [hU10]; simp only [List.length_append]; omega)
 rw [← hU10] at HT10 HTX
 clear hU10 HLU9 HLl
 have yy := HT10.o.tx.bx.2 7 _ rfl
 go_upto_if 131 with fail
 go_cut [3] from 129 (fun s3 wx => ∃ v, v = s3 ∧ Hd (TY w v (U10 ++ offTx x) (qF x) wx))
 case first =>
  by_cases hz : x.off > 0
  · have HDE := iH (show offTx x = _ by unfold offTx; rw [if_pos hz])
    have hzz := hz
    have HDG : Hd (∀ W, Cl 69 #[.int .i64 x.off] W fun e w' => DigRes W (digitsL x.off.toNat) e w') := fun W => by
     have h1 := l1digits_any x.off.toNat W (by have := HNL.o; omega)
     rwa [Int.toNat_of_nonneg (by omega)] at h1
    have HDL : Hd (1 ≤ (digitsL x.off.toNat).length ∧ (digitsL x.off.toNat).length ≤ 20) := digits_most (by have := HNL.o; omega)
    have HTd := iH (HT10.o.below bdr)
    clear hz
    go_wp2_with fail
    clear yy HT10
    refine whd (fun w' => Box w' w.heap.size (qF x)) ?_ fun hHeld => ?_
    · exact HTd.o.tx.bx
    refine tkB 0 132 ?_
    refine tkB 2 134 ?_
    refine tkA 3 135 (v := ?v26) ?y26 ?_
    case y26 => (intro w' hSw; have q1 := hSw.2 7 _ rfl; go_simp; (try with_reducible rfl))
    try simp only [Act.put, sA, zA, cA]
    refine wpAnyH_ready (rs := [1, 6]) (by kernel_rfl) (by simp) ?_
    refine (AllReadyH.cons rfl (fun K hK => ?_) (AllReadyH.cons rfl (fun K hK => ?_) AllReadyH.nil))
    · go_simp
      refine (l4wordX v10 (w.heap.size + 1) (U10) ⟨#[79, 70, 70, 83, 69, 84]⟩ _ HTd.o.tx.own HTd.o.tx.lo (by decide) (by rw [show (ByteArray.mk #[79, 70, 70, 83, 69, 84]).size = 6 from rfl]; have l0 := HLU10.o; (try simp only [lA, lC, lN]); omega)).mono ?_
      rintro e z20 ⟨v20, rfl, hO20, hK20⟩
      have HT20 : Hd (TY w v20 (U10 ++ [79, 70, 70, 83, 69, 84, 32]) (qF x) z20) := HTd.o.tx.say hO20 hK20
      clear hO20 hK20
      go_wp2_with fail
      refine hK.out _ _ ?_ fun hHeld => ?_
      · exact HT20.o.tx.bx
      clear hK K
      try simp only [Act.put, sA, zA, cA]
      refine wpAnyH_ready (rs := [4, 6]) (by kernel_rfl) (by simp) ?_
      refine (AllReadyH.cons rfl (fun K hK => ?_) (AllReadyH.cons rfl (fun K hK => ?_) AllReadyH.nil))
      · go_simp
        refine (HDG.o _).mono ?_
        rintro e z21 ⟨g21, c21, rfl, hR21, hb21⟩
        have HT21 := iH (HT20.o.below hb21)
        have HD21 := iH (hR21.src HT20.o.own)
        clear hR21 hb21
        go_wp2_with fail
        refine hK.out _ _ ?_ fun hHeld => ?_
        · exact HT21.o.tx.bx
        clear hK K
        try simp only [Act.put, sA, zA, cA]
        refine wpAnyH_ready (rs := [5, 6]) (by kernel_rfl) (by simp) ?_
        refine (AllReadyH.cons rfl (fun K hK => ?_) (AllReadyH.cons rfl (fun K hK => ?_) AllReadyH.nil))
        · refine step_app8k rfl 137 rfl (.tmp 133) (.tmp 136) rfl (w.heap.size + 1) v20 (U10 ++ [79, 70, 70, 83, 69, 84, 32]) rfl HT21.o.own g21 _ c21 (digitsL x.off.toNat) rfl rfl HD21 HDL.o.1 (by have l0 := HLU10.o; have q9 := HDL.o.2; (try simp only [lA, lC, lN]); omega) HT21.o.tx.lo ?_
          intro v22 z22 HO22 HK22
          have HT22 := iH (HT21.o.tx.say HO22.o HK22.o)
          clear HO22 HK22
          refine hK.out _ _ ?_ fun hHeld => ?_
          · exact HT22.o.tx.bx
          clear hK K
          try simp only [Act.put, sA, zA, cA]
          refine rdA 6 fun K hK => ?_
          go_simp
          have HT23 : Hd (TY w v22 (U10 ++ [79, 70, 70, 83, 69, 84, 32] ++ (digitsL x.off.toNat)) (qF x) (z22.alloc (.cells #[.int .u8 32] 5))) := HT22.o.below (bl_a _)
          have HP23 : Hd (Src8 (z22.alloc (.cells #[.int .u8 32] 5)) v22 z22.heap.size [32]) := ⟨by simp, HT22.o.own.off1, one_news z22 32⟩
          refine hK.out _ _ ?_ fun hHeld => ?_
          · exact HT23.o.tx.bx
          clear hK K
          try simp only [Act.put, sA, zA, cA]
          refine rdA 7 fun K hK => ?_
          refine step_app8k rfl 139 rfl (.tmp 137) (.tmp 138) rfl (w.heap.size + 1) v22 (U10 ++ [79, 70, 70, 83, 69, 84, 32] ++ (digitsL x.off.toNat)) rfl HT23.o.own z22.heap.size 1 1 [32] rfl rfl HP23 (by omega) (by have l0 := HLU10.o; have q9 := HDL.o.2; (try simp only [lA, lC, lN]); omega) HT23.o.tx.lo ?_
          intro v24 z24 HO24 HK24
          have HT24 : Hd (TY w v24 (U10 ++ offTx x) (qF x) z24) := (HT23.o.tx.say (bs' := U10 ++ [79, 70, 70, 83, 69, 84, 32] ++ (digitsL x.off.toNat) ++ [32]) HO24.o HK24.o).to (by rw [HDE.o]; simp [numTx])
          clear HO24 HK24
          refine hK.out _ _ ?_ fun hHeld => ?_
          · exact HT24.o.tx.bx
          clear hK K
          refine tkB 8 3 ?_
          refine wpAnyH_done (by kernel_rfl) ?_ _
          clear hHeld
          go_wp2_with fail
          go_meet
          case rel => exact ⟨_, rfl, HT24⟩
        go_simp
        have HT25 : Hd (TY w v20 (U10 ++ [79, 70, 70, 83, 69, 84, 32]) (qF x) (z21.alloc (.cells #[.int .u8 32] 5))) := HT21.o.below (bl_a _)
        have HP25 : Hd (Src8 (z21.alloc (.cells #[.int .u8 32] 5)) v20 z21.heap.size [32]) := ⟨by simp, HT21.o.own.off1, one_news z21 32⟩
        have HD25 : Hd (Src8 (z21.alloc (.cells #[.int .u8 32] 5)) v20 g21 (digitsL x.off.toNat)) := HD21.o.below (bl_a _)
        refine hK.out _ _ ?_ fun hHeld => ?_
        · exact HT25.o.tx.bx
        clear hK K
        try simp only [Act.put, sA, zA, cA]
        refine rdA 5 fun K hK => ?_
        refine step_app8k rfl 137 rfl (.tmp 133) (.tmp 136) rfl (w.heap.size + 1) v20 (U10 ++ [79, 70, 70, 83, 69, 84, 32]) rfl HT25.o.own g21 _ c21 (digitsL x.off.toNat) rfl rfl HD25 HDL.o.1 (by have l0 := HLU10.o; have q9 := HDL.o.2; (try simp only [lA, lC, lN]); omega) HT25.o.tx.lo ?_
        intro v26 z26 HO26 HK26
        have HT26 := iH (HT25.o.tx.say HO26.o HK26.o)
        have HP26 := iH (HP25.o.kp HK26.o)
        clear HO26 HK26
        refine hK.out _ _ ?_ fun hHeld => ?_
        · exact HT26.o.tx.bx
        clear hK K
        try simp only [Act.put, sA, zA, cA]
        refine rdA 7 fun K hK => ?_
        refine step_app8k rfl 139 rfl (.tmp 137) (.tmp 138) rfl (w.heap.size + 1) v26 (U10 ++ [79, 70, 70, 83, 69, 84, 32] ++ (digitsL x.off.toNat)) rfl HT26.o.own z21.heap.size 1 1 [32] rfl rfl HP26 (by omega) (by have l0 := HLU10.o; have q9 := HDL.o.2; (try simp only [lA, lC, lN]); omega) HT26.o.tx.lo ?_
        intro v27 z27 HO27 HK27
        have HT27 : Hd (TY w v27 (U10 ++ offTx x) (qF x) z27) := (HT26.o.tx.say (bs' := U10 ++ [79, 70, 70, 83, 69, 84, 32] ++ (digitsL x.off.toNat) ++ [32]) HO27.o HK27.o).to (by rw [HDE.o]; simp [numTx])
        clear HO27 HK27
        refine hK.out _ _ ?_ fun hHeld => ?_
        · exact HT27.o.tx.bx
        clear hK K
        refine tkB 8 3 ?_
        refine wpAnyH_done (by kernel_rfl) ?_ _
        clear hHeld
        go_wp2_with fail
        go_meet
        case rel => exact ⟨_, rfl, HT27⟩
      go_simp
      have HT28 : Hd (TY w v20 (U10 ++ [79, 70, 70, 83, 69, 84, 32]) (qF x) (z20.alloc (.cells #[.int .u8 32] 5))) := HT20.o.below (bl_a _)
      have HP28 : Hd (Src8 (z20.alloc (.cells #[.int .u8 32] 5)) v20 z20.heap.size [32]) := ⟨by simp, HT20.o.own.off1, one_news z20 32⟩
      refine hK.out _ _ ?_ fun hHeld => ?_
      · exact HT28.o.tx.bx
      clear hK K
      try simp only [Act.put, sA, zA, cA]
      refine rdA 4 fun K hK => ?_
      go_simp
      refine (HDG.o _).mono ?_
      rintro e z29 ⟨g29, c29, rfl, hR29, hb29⟩
      have HT29 := iH (HT28.o.below hb29)
      have HD29 := iH (hR29.src HT28.o.own)
      have HP29 := iH (HP28.o.below hb29)
      clear hR29 hb29
      go_wp2_with fail
      refine hK.out _ _ ?_ fun hHeld => ?_
      · exact HT29.o.tx.bx
      clear hK K
      try simp only [Act.put, sA, zA, cA]
      refine rdA 5 fun K hK => ?_
      refine step_app8k rfl 137 rfl (.tmp 133) (.tmp 136) rfl (w.heap.size + 1) v20 (U10 ++ [79, 70, 70, 83, 69, 84, 32]) rfl HT29.o.own g29 _ c29 (digitsL x.off.toNat) rfl rfl HD29 HDL.o.1 (by have l0 := HLU10.o; have q9 := HDL.o.2; (try simp only [lA, lC, lN]); omega) HT29.o.tx.lo ?_
      intro v30 z30 HO30 HK30
      have HT30 := iH (HT29.o.tx.say HO30.o HK30.o)
      have HP30 := iH (HP29.o.kp HK30.o)
      clear HO30 HK30
      refine hK.out _ _ ?_ fun hHeld => ?_
      · exact HT30.o.tx.bx
      clear hK K
      try simp only [Act.put, sA, zA, cA]
      refine rdA 7 fun K hK => ?_
      refine step_app8k rfl 139 rfl (.tmp 137) (.tmp 138) rfl (w.heap.size + 1) v30 (U10 ++ [79, 70, 70, 83, 69, 84, 32] ++ (digitsL x.off.toNat)) rfl HT30.o.own z20.heap.size 1 1 [32] rfl rfl HP30 (by omega) (by have l0 := HLU10.o; have q9 := HDL.o.2; (try simp only [lA, lC, lN]); omega) HT30.o.tx.lo ?_
      intro v31 z31 HO31 HK31
      have HT31 : Hd (TY w v31 (U10 ++ offTx x) (qF x) z31) := (HT30.o.tx.say (bs' := U10 ++ [79, 70, 70, 83, 69, 84, 32] ++ (digitsL x.off.toNat) ++ [32]) HO31.o HK31.o).to (by rw [HDE.o]; simp [numTx])
      clear HO31 HK31
      refine hK.out _ _ ?_ fun hHeld => ?_
      · exact HT31.o.tx.bx
      clear hK K
      refine tkB 8 3 ?_
      refine wpAnyH_done (by kernel_rfl) ?_ _
      clear hHeld
      go_wp2_with fail
      go_meet
      case rel => exact ⟨_, rfl, HT31⟩
    go_simp
    have HT32 : Hd (TY w v10 (U10) (qF x) (wc.drew.alloc (.cells #[.int .u8 32] 5))) := HTd.o.below (bl_a _)
    have HP32 : Hd (Src8 (wc.drew.alloc (.cells #[.int .u8 32] 5)) v10 wc.drew.heap.size [32]) := ⟨by simp, HTd.o.own.off1, one_news wc.drew 32⟩
    refine hK.out _ _ ?_ fun hHeld => ?_
    · exact HT32.o.tx.bx
    clear hK K
    try simp only [Act.put, sA, zA, cA]
    refine rdA 1 fun K hK => ?_
    go_simp
    refine (l4wordX v10 (w.heap.size + 1) (U10) ⟨#[79, 70, 70, 83, 69, 84]⟩ _ HT32.o.tx.own HT32.o.tx.lo (by decide) (by rw [show (ByteArray.mk #[79, 70, 70, 83, 69, 84]).size = 6 from rfl]; have l0 := HLU10.o; (try simp only [lA, lC, lN]); omega)).mono ?_
    rintro e z33 ⟨v33, rfl, hO33, hK33⟩
    have HT33 : Hd (TY w v33 (U10 ++ [79, 70, 70, 83, 69, 84, 32]) (qF x) z33) := HT32.o.tx.say hO33 hK33
    have HP33 := iH (HP32.o.kp hK33)
    clear hO33 hK33
    go_wp2_with fail
    refine hK.out _ _ ?_ fun hHeld => ?_
    · exact HT33.o.tx.bx
    clear hK K
    try simp only [Act.put, sA, zA, cA]
    refine rdA 4 fun K hK => ?_
    go_simp
    refine (HDG.o _).mono ?_
    rintro e z34 ⟨g34, c34, rfl, hR34, hb34⟩
    have HT34 := iH (HT33.o.below hb34)
    have HD34 := iH (hR34.src HT33.o.own)
    have HP34 := iH (HP33.o.below hb34)
    clear hR34 hb34
    go_wp2_with fail
    refine hK.out _ _ ?_ fun hHeld => ?_
    · exact HT34.o.tx.bx
    clear hK K
    try simp only [Act.put, sA, zA, cA]
    refine rdA 5 fun K hK => ?_
    refine step_app8k rfl 137 rfl (.tmp 133) (.tmp 136) rfl (w.heap.size + 1) v33 (U10 ++ [79, 70, 70, 83, 69, 84, 32]) rfl HT34.o.own g34 _ c34 (digitsL x.off.toNat) rfl rfl HD34 HDL.o.1 (by have l0 := HLU10.o; have q9 := HDL.o.2; (try simp only [lA, lC, lN]); omega) HT34.o.tx.lo ?_
    intro v35 z35 HO35 HK35
    have HT35 := iH (HT34.o.tx.say HO35.o HK35.o)
    have HP35 := iH (HP34.o.kp HK35.o)
    clear HO35 HK35
    refine hK.out _ _ ?_ fun hHeld => ?_
    · exact HT35.o.tx.bx
    clear hK K
    try simp only [Act.put, sA, zA, cA]
    refine rdA 7 fun K hK => ?_
    refine step_app8k rfl 139 rfl (.tmp 137) (.tmp 138) rfl (w.heap.size + 1) v35 (U10 ++ [79, 70, 70, 83, 69, 84, 32] ++ (digitsL x.off.toNat)) rfl HT35.o.own wc.drew.heap.size 1 1 [32] rfl rfl HP35 (by omega) (by have l0 := HLU10.o; have q9 := HDL.o.2; (try simp only [lA, lC, lN]); omega) HT35.o.tx.lo ?_
    intro v36 z36 HO36 HK36
    have HT36 : Hd (TY w v36 (U10 ++ offTx x) (qF x) z36) := (HT35.o.tx.say (bs' := U10 ++ [79, 70, 70, 83, 69, 84, 32] ++ (digitsL x.off.toNat) ++ [32]) HO36.o HK36.o).to (by rw [HDE.o]; simp [numTx])
    clear HO36 HK36
    refine hK.out _ _ ?_ fun hHeld => ?_
    · exact HT36.o.tx.bx
    clear hK K
    refine tkB 8 3 ?_
    refine wpAnyH_done (by kernel_rfl) ?_ _
    clear hHeld
    go_wp2_with fail
    go_meet
    case rel => exact ⟨_, rfl, HT36⟩
  have HTE : Hd (TY w v10 (U10 ++ offTx x) (qF x) wc) := HT10.o.to (by unfold offTx; rw [if_neg hz, List.append_nil])
  have hzz := hz
  clear hz HT10
  go_wp2_with fail
  go_meet
  case rel => exact ⟨_, rfl, HTE⟩
 obtain ⟨v11, rfl, HT11⟩ := hcut
 clear HT10 yy
 go_wp2
 go_ret
 exact ⟨_, rfl, HTX.o ▸ HT11.o.own, HT11.o.tx.bl⟩
end Go.Proofs.YthljoojcpbignaaGreatDoor
