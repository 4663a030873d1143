import Derived.Test.YtoloadogihbdeaaGreatMk07
import Derived.Test.YtoloadogihbdeaaGreatMk04
import Derived.Deep.CutRange
import Derived.Deep.AppendSrc
import Derived.Laws.IdiomCopy
namespace Go.Proofs.YtoloadogihbdeaaGreat
open Go.RowKit Go.Deep
set_option maxHeartbeats 40000000
set_option maxRecDepth 100000
variable {a a' : Act} {K : Act → World → Prop} {listed : Array Bool} {ops : Array Oper} {Q : Exit → Act → World → Prop} {bs : List Int} {rest : List Oper} {cs : List Value} {B b fuel g n : Nat} {o oi op : Oper} {x : Operand} {P : Program} {E : Prop} {md : Region.Mode} {v v' v0 : Value} {W W' w w' w'' w0 : World} {S : World → Prop}
theorem hasOwnA_any (d : AN) (kid : Nat → AT) (w : World) (hl : (AT.mk d kid).lies 0 w) : Calls Tryz.prog 141 #[.agg d.ar] w (Tells (HasA d) w) := by
 try unfold AN.ar AN.cl
 obtain ⟨hp, hpl, hpn, he, hv, ht, htn, hn, _⟩ := hl;have KC := fun W => algKidCount_any d.k W;have HQK : Hd (0 ≤ d.k → d.k ≤ 7 → (kidsA d.k : Int) = pKids d.k) := fun h1 h2 => by
  unfold kidsA pKids;repeat' split
  all_goals omega
 obtain ⟨c, hc⟩ : ∃ c, c = pKids d.k := ⟨_, rfl⟩;rw [← hc] at KC HQK;have HLP := iH hp;have HPL := iH hpl;have HPN := iH hpn;have HLE := iH he;have HLV := iH hv;have HLT := iH ht;have HLN := iH htn;clear hp hpl hpn he hv ht htn hn hc;go_enter Tryz.func141, Tryz.ntmps141;go_upto_region 1 with fail
 obtain ⟨q0, hq0⟩ : ∃ q0, q0 = ((d.n : Int) != c) := ⟨_, rfl⟩;have HQ0 := iH hq0;refine whd (fun w' => w' = ((w.alloc (.cells d.ar 52)).drew)) ?_ fun hHeld => ?_
 · rfl
 refine tkB 0 5 ?_;refine tkA 1 6 (v := ?v2) ?y2 ?_
 case y2 => (intro w' hSw; subst hSw; go_simp; (try with_reducible rfl))
 refine tkB 2 7 ?_;refine tkB 3 8 ?_;refine tkA 4 9 (v := ?v5) ?y5 ?_
 case y5 => (intro w' hSw; subst hSw; go_simp; (try with_reducible rfl))
 try simp only [Act.put, sA, zA, cA]
 refine rdA 5 fun K hK => ?_;go_simp;refine (KC _).mono ?_;rintro e z1 ⟨rfl, h1⟩;subst z1;go_wp2_with fail
 refine rhK hK rfl fun hHeld => ?_;clear hK K;refine takeq (i := 6) 11 (v := .bool q0) rfl rfl (by kernel_rfl) (by kernel_rfl) (by kernel_rfl) (fun _ _ _ h => h) (Or.inl ⟨by rfl, ?y6⟩) hHeld ?r6
 case y6 => (intro w' hSw; rw [hq0]; go_simp; (try with_reducible rfl))
 try simp only [Act.put, sA, zA, cA]
 refine wpAnyH_done (by kernel_rfl) ?_ _;clear hHeld KC hq0;cases q0;rotate_left
 · have HNO : Hd (¬ HasA d) := fun hh => by
    have h1 : (d.n : Int) ≠ c := bne_iff_ne.1 HQ0.o.symm;have h2 := hh.n;have h3 := HQK.o hh.k0 hh.k7;omega
   clear HQ0;go_wp2;go_ret;exact Tells.no HNO.o (Below.drew (bl_a _))
 have HK : Hd ((d.n : Int) = c) := (show _ = _ by
  have h1 : ¬ (d.n : Int) ≠ c := fun h => (by have h2 := bne_iff_ne.2 h; rw [← HQ0.o] at h2; cases h2)
  omega)
 clear HQ0;by_cases hin : 0 ≤ d.k ∧ d.k ≤ 7;rotate_left
 · have HNO : Hd (¬ HasA d) := fun hh => hin ⟨hh.k0, hh.k7⟩
   have m0 : (d.k == 0) = false := by simp; omega
   have m1 : (d.k == 1) = false := by simp; omega
   have m2 : (d.k == 2) = false := by simp; omega
   have m3 : (d.k == 3) = false := by simp; omega
   have m4 : (d.k == 4) = false := by simp; omega
   have m5 : (d.k == 5) = false := by simp; omega
   have m6 : (d.k == 6) = false := by simp; omega
   have m7 : (d.k == 7) = false := by simp; omega
   clear hin;go_wp2;go_ret;exact Tells.no HNO.o (bl_alloc (Below.drew (bl_a _)) _)
 have HKN : Hd (d.n = kidsA d.k) := (show _ = _ by have h1 := HQK.o hin.1 hin.2; have h2 := HK.o; omega);have HK8 := iH hin;rcases (show d.k = 0 ∨ d.k = 1 ∨ d.k = 2 ∨ d.k = 3 ∨ d.k = 4 ∨ d.k = 5 ∨ d.k = 6 ∨ d.k = 7 by omega) with h | h | h | h | h | h | h | h;all_goals clear hin
 all_goals
  have HKV := iH h;clear h;try unfold AN.ar AN.cl
  rw [HKV.o];first
  | have HG : Hd (d.k = 0) := HKV
    clear HG;have HE1 : Hd (¬ hasE d.k) := (show ¬ hasE d.k by rw [HKV.o]; unfold hasE; decide);have HV1 : Hd (¬ hasV d.k) := (show ¬ hasV d.k by rw [HKV.o]; unfold hasV; decide);have HIB := iH fun W (hb : Bl w W) => isBareA_any ⟨0, none, 0, 0, d.pat, d.e, d.v, d.ta, d.tc, d.tb, d.ka, d.kc, d.n⟩ W (ET.lies.upper (uB hb) HLE.o) (HLV.o.upper (uB hb));have HPO := fun W (hb : Bl w W) => patsOk_any d.pa d.pn d.pc d.pat W HPN.o (HLP.o.upper (uB hb)) (fun i hi => (HPL.o i hi).upper (uB hb));go_wp2_with fail
    refine (HPO _ (bl_alloc (Below.drew (bl_a _)) _)).mono ?_;rintro e w3 ⟨q3, rfl, hq3, hb3⟩;have HB3 := iH (bl_trans (bl_alloc (Below.drew (bl_a _)) _) hb3);have HO3 : Hd (OB w3 (w.heap.size + 1) (gL 0 (.slice d.pa d.pn d.pc) d.e.d d.v (.slice d.ta d.tb.length d.tc) (.slice d.ka d.n d.kc))) := (show OB _ _ _ by have h := (OB.new ((w.alloc (.cells (gA 0 (.slice d.pa d.pn d.pc) d.e.d d.v (.slice d.ta d.tb.length d.tc) (.slice d.ka d.n d.kc)) 52)).drew) (gA 0 (.slice d.pa d.pn d.pc) d.e.d d.v (.slice d.ta d.tb.length d.tc) (.slice d.ka d.n d.kc)) 52).below hb3; simpa using h)
    clear hb3 HPO;have s1 := (HO3.o.2 1 _ rfl).1;have t1 := (HO3.o.2 1 _ rfl).2;have HBf := iH (HB3.o.setCell (p := ⟨w.heap.size + 1, 1, none⟩) (Nat.le_succ _) (.slice none 0 0));have HR4 : Hd (Box (w3.setCell ⟨w.heap.size + 1, 1, none⟩ (.slice none 0 0)) (w.heap.size + 1) (gL 0 (.slice none 0 0) d.e.d d.v (.slice d.ta d.tb.length d.tc) (.slice d.ka d.n d.kc))) := (HO3.o.sets [.slice none 0 0] 1).box;go_upto_region 18 with fail
    generalize w3.setCell _ _ = W4 at *;clear s1 t1 HO3 HB3;cases q3
    · have HNO : Hd (¬ HasA d) := fun hh => by have h := hq3.2 ⟨hh.pn, hh.pt⟩; cases h
      clear hq3;go_wp2;go_ret;exact Tells.no HNO.o HBf.o
    have HPT := iH (hq3.1 rfl);clear hq3;have u0 := HR4.o.2 0 _ rfl;have u1 := HR4.o.2 1 _ rfl;have u2 := HR4.o.2 2 _ rfl;have u3 := HR4.o.2 3 _ rfl;have u4 := HR4.o.2 4 _ rfl;have u5 := HR4.o.2 5 _ rfl;have u6 := HR4.o.2 6 _ rfl;have u7 := HR4.o.2 7 _ rfl;have u8 := HR4.o.2 8 _ rfl;have u9 := HR4.o.2 9 _ rfl;have u10 := HR4.o.2 10 _ rfl;have u11 := HR4.o.2 11 _ rfl;have u12 := HR4.o.2 12 _ rfl;go_wp2_with fail
    refine (HIB.o _ HBf.o).mono ?_;rintro e w9 ⟨q9, rfl, hq9, hb9⟩;have HE : Hd (q9 = true ↔ HasA d) := (show (q9 = true ↔ HasA d) from hq9.trans ⟨fun h => ⟨HK8.o.1, HK8.o.2, HKN.o, fun h2 => absurd HKV.o h2, HPT.o.1, fun _ => (show d.tb = [] from h.2.2.2), by rw [(show d.tb = [] from h.2.2.2)]; decide, fun _ => h.2.1, fun h2 => absurd h2 HV1.o, fun _ => h.2.2.1, HPT.o.2, fun x hx => by rw [(show d.tb = [] from h.2.2.2)] at hx; cases hx⟩, fun h => BareA.mk rfl (h.e0 HE1.o) (h.v0 HV1.o) (h.t0 (by rw [HKV.o]; decide))⟩);have HB9 := iH (bl_trans HBf.o hb9);clear hq9 hb9;go_wp2;go_ret;exact Tells.of HE.o HB9.o
  | have HG : Hd (d.k = 7) := HKV
    clear HG;have HE1 : Hd (¬ hasE d.k) := (show ¬ hasE d.k by rw [HKV.o]; unfold hasE; decide);have HV1 : Hd (hasV d.k) := (show hasV d.k by rw [HKV.o]; unfold hasV; decide);have HIB := iH fun W (hb : Bl w W) => isBareA_any ⟨7, d.pa, d.pc, d.pn, d.pat, d.e, ⟨none, 0, 0, []⟩, none, 0, [], d.ka, d.kc, d.n⟩ W (ET.lies.upper (uB hb) HLE.o) (bs_nil W);have IN := fun W (hb : Bl w W) => isName_any d.v.a d.v.len d.v.cap d.v.b W (HLV.o.upper (uB hb)).1;obtain ⟨qn, hnm⟩ : ∃ q, q = nameOk d.v.b := ⟨_, rfl⟩;rw [← hnm] at IN;have HNM := iH hnm.symm;clear hnm;go_wp2_with fail
    refine (IN _ (bl_alloc (Below.drew (bl_a _)) _)).mono ?_;rintro e w3 ⟨rfl, h3⟩;subst w3;clear IN;cases qn
    · have HNO : Hd (¬ HasA d) := fun hh => by have h := hh.v1 HV1.o; rw [HNM.o] at h; cases h
      go_wp2;go_ret;exact Tells.no HNO.o (bl_alloc (Below.drew (bl_a _)) _)
    have HVO := fun W (hb : Bl w W) => valuesOk_any d.ta d.tb.length d.tc (tbG d.tb) W HLN.o (trow_krow (HLT.o.upper (uB hb))) (tb_lies (HLT.o.upper (uB hb)));go_wp2_with fail
    refine (HVO _ (bl_alloc (Below.drew (bl_a _)) _)).mono ?_;rintro e w3 ⟨q3, rfl, hq3, hb3⟩;have HB3 := iH (bl_trans (bl_alloc (Below.drew (bl_a _)) _) hb3);have HO3 : Hd (OB w3 (w.heap.size + 1) (gL 7 (.slice d.pa d.pn d.pc) d.e.d d.v (.slice d.ta d.tb.length d.tc) (.slice d.ka d.n d.kc))) := (show OB _ _ _ by have h := (OB.new ((w.alloc (.cells (gA 7 (.slice d.pa d.pn d.pc) d.e.d d.v (.slice d.ta d.tb.length d.tc) (.slice d.ka d.n d.kc)) 52)).drew) (gA 7 (.slice d.pa d.pn d.pc) d.e.d d.v (.slice d.ta d.tb.length d.tc) (.slice d.ka d.n d.kc)) 52).below hb3; simpa using h)
    clear hb3 HVO;have s10 := (HO3.o.2 10 _ rfl).1;have t10 := (HO3.o.2 10 _ rfl).2;have s11 := (HO3.o.2 11 _ rfl).1;have t11 := (HO3.o.2 11 _ rfl).2;have HBf := iH ((HB3.o.setCell (p := ⟨w.heap.size + 1, 10, none⟩) (Nat.le_succ _) (.slice none 0 0)).setCell (p := ⟨w.heap.size + 1, 11, none⟩) (Nat.le_succ _) (.slice none 0 0));have HR4 : Hd (Box ((w3.setCell ⟨w.heap.size + 1, 10, none⟩ (.slice none 0 0)).setCell ⟨w.heap.size + 1, 11, none⟩ (.slice none 0 0)) (w.heap.size + 1) (gVL 7 (.slice d.pa d.pn d.pc) d.e.d (.slice none 0 0) (.slice none 0 0) (.slice d.ka d.n d.kc))) := (HO3.o.sets [.slice none 0 0, .slice none 0 0] 10).box;go_upto_region 18 with fail
    generalize (w3.setCell _ _).setCell _ _ = W4 at *;clear s10 t10 s11 t11 HO3 HB3;cases q3
    · have HNO : Hd (¬ HasA d) := fun hh => by have h := hq3.2 ⟨hh.tn, tb_all.2 hh.tm⟩; cases h
      clear hq3;go_wp2;go_ret;exact Tells.no HNO.o HBf.o
    have HTM := iH (hq3.1 rfl);clear hq3;have u0 := HR4.o.2 0 _ rfl;have u1 := HR4.o.2 1 _ rfl;have u2 := HR4.o.2 2 _ rfl;have u3 := HR4.o.2 3 _ rfl;have u4 := HR4.o.2 4 _ rfl;have u5 := HR4.o.2 5 _ rfl;have u6 := HR4.o.2 6 _ rfl;have u7 := HR4.o.2 7 _ rfl;have u8 := HR4.o.2 8 _ rfl;have u9 := HR4.o.2 9 _ rfl;have u10 := HR4.o.2 10 _ rfl;have u11 := HR4.o.2 11 _ rfl;have u12 := HR4.o.2 12 _ rfl;go_wp2_with fail
    refine (HIB.o _ HBf.o).mono ?_;rintro e w9 ⟨q9, rfl, hq9, hb9⟩;have HE : Hd (q9 = true ↔ HasA d) := (show (q9 = true ↔ HasA d) from hq9.trans ⟨fun h => ⟨HK8.o.1, HK8.o.2, HKN.o, fun _ => (show d.pn = 0 from h.1), by rw [(show d.pn = 0 from h.1)]; decide, fun h2 => absurd HKV.o h2, HTM.o.1, fun _ => h.2.1, fun _ => HNM.o, fun h2 => absurd HV1.o h2, fun i hi => by rw [(show d.pn = 0 from h.1)] at hi; exact absurd hi nN, tb_all.1 HTM.o.2⟩, fun h => BareA.mk (h.p0 (by rw [HKV.o]; decide)) (h.e0 HE1.o) rfl rfl⟩);have HB9 := iH (bl_trans HBf.o hb9);clear hq9 hb9;go_wp2;go_ret;exact Tells.of HE.o HB9.o
  | have HG : Hd (d.k = 6) := HKV
    clear HG;have HE1 : Hd (hasE d.k) := (show hasE d.k by rw [HKV.o]; unfold hasE; decide);have HV1 : Hd (hasV d.k) := (show hasV d.k by rw [HKV.o]; unfold hasV; decide);have HIB := iH fun W (hb : Bl w W) => isBareA_any ⟨6, d.pa, d.pc, d.pn, d.pat, ET0, ⟨none, 0, 0, []⟩, d.ta, d.tc, d.tb, d.ka, d.kc, d.n⟩ W (ET0_lies W) (bs_nil W);have IN := fun W (hb : Bl w W) => isName_any d.v.a d.v.len d.v.cap d.v.b W (HLV.o.upper (uB hb)).1;obtain ⟨qn, hnm⟩ : ∃ q, q = nameOk d.v.b := ⟨_, rfl⟩;rw [← hnm] at IN;have HNM := iH hnm.symm;clear hnm;go_wp2_with fail
    refine (IN _ (bl_alloc (Below.drew (bl_a _)) _)).mono ?_;rintro e w3 ⟨rfl, h3⟩;subst w3;clear IN;cases qn
    · have HNO : Hd (¬ HasA d) := fun hh => by have h := hh.v1 HV1.o; rw [HNM.o] at h; cases h
      go_wp2;go_ret;exact Tells.no HNO.o (bl_alloc (Below.drew (bl_a _)) _)
    go_wp2_with fail
    refine (HIB.o _ (bl_alloc (Below.drew (bl_a _)) _)).mono ?_;rintro e w9 ⟨q9, rfl, hq9, hb9⟩;have HE : Hd (q9 = true ↔ HasA d) := (show (q9 = true ↔ HasA d) from hq9.trans ⟨fun h => ⟨HK8.o.1, HK8.o.2, HKN.o, fun _ => (show d.pn = 0 from h.1), by rw [(show d.pn = 0 from h.1)]; decide, fun _ => (show d.tb = [] from h.2.2.2), by rw [(show d.tb = [] from h.2.2.2)]; decide, fun h2 => absurd HE1.o h2, fun _ => HNM.o, fun h2 => absurd HV1.o h2, fun i hi => by rw [(show d.pn = 0 from h.1)] at hi; exact absurd hi nN, fun x hx => by rw [(show d.tb = [] from h.2.2.2)] at hx; cases hx⟩, fun h => BareA.mk (h.p0 (by rw [HKV.o]; decide)) ET0_zero rfl (h.t0 (by rw [HKV.o]; decide))⟩);have HB9 := iH (bl_trans (bl_alloc (Below.drew (bl_a _)) _) hb9);clear hq9 hb9;go_wp2;go_ret;exact Tells.of HE.o HB9.o
  | have HG : hasE d.k := by rw [HKV.o]; unfold hasE; decide
    clear HG;have HE1 : Hd (hasE d.k) := (show hasE d.k by rw [HKV.o]; unfold hasE; decide);have HV1 : Hd (¬ hasV d.k) := (show ¬ hasV d.k by rw [HKV.o]; unfold hasV; decide);have HIB := iH fun W (hb : Bl w W) => isBareA_any ⟨d.k, d.pa, d.pc, d.pn, d.pat, ET0, d.v, d.ta, d.tc, d.tb, d.ka, d.kc, d.n⟩ W (ET0_lies W) (HLV.o.upper (uB hb));rw [HKV.o] at HIB;go_wp2_with fail
    refine (HIB.o _ (bl_alloc (Below.drew (bl_a _)) _)).mono ?_;rintro e w9 ⟨q9, rfl, hq9, hb9⟩;have HE : Hd (q9 = true ↔ HasA d) := (show (q9 = true ↔ HasA d) from hq9.trans ⟨fun h => ⟨HK8.o.1, HK8.o.2, HKN.o, fun _ => (show d.pn = 0 from h.1), by rw [(show d.pn = 0 from h.1)]; decide, fun _ => (show d.tb = [] from h.2.2.2), by rw [(show d.tb = [] from h.2.2.2)]; decide, fun h2 => absurd HE1.o h2, fun h2 => absurd h2 HV1.o, fun _ => h.2.2.1, fun i hi => by rw [(show d.pn = 0 from h.1)] at hi; exact absurd hi nN, fun x hx => by rw [(show d.tb = [] from h.2.2.2)] at hx; cases hx⟩, fun h => BareA.mk (h.p0 (by rw [HKV.o]; decide)) ET0_zero (h.v0 HV1.o) (h.t0 (by rw [HKV.o]; decide))⟩);have HB9 := iH (bl_trans (bl_alloc (Below.drew (bl_a _)) _) hb9);clear hq9 hb9;go_wp2;go_ret;exact Tells.of HE.o HB9.o
  | have HE1 : Hd (¬ hasE d.k) := (show ¬ hasE d.k by rw [HKV.o]; unfold hasE; decide)
    have HV1 : Hd (¬ hasV d.k) := (show ¬ hasV d.k by rw [HKV.o]; unfold hasV; decide);have HIB := iH fun W (hb : Bl w W) => isBareA_any ⟨d.k, d.pa, d.pc, d.pn, d.pat, d.e, d.v, d.ta, d.tc, d.tb, d.ka, d.kc, d.n⟩ W (ET.lies.upper (uB hb) HLE.o) (HLV.o.upper (uB hb));rw [HKV.o] at HIB;go_wp2_with fail
    refine (HIB.o _ (bl_alloc (Below.drew (bl_a _)) _)).mono ?_;rintro e w9 ⟨q9, rfl, hq9, hb9⟩;have HE : Hd (q9 = true ↔ HasA d) := (show (q9 = true ↔ HasA d) from hq9.trans ⟨fun h => ⟨HK8.o.1, HK8.o.2, HKN.o, fun _ => (show d.pn = 0 from h.1), by rw [(show d.pn = 0 from h.1)]; decide, fun _ => (show d.tb = [] from h.2.2.2), by rw [(show d.tb = [] from h.2.2.2)]; decide, fun _ => h.2.1, fun h2 => absurd h2 HV1.o, fun _ => h.2.2.1, fun i hi => by rw [(show d.pn = 0 from h.1)] at hi; exact absurd hi nN, fun x hx => by rw [(show d.tb = [] from h.2.2.2)] at hx; cases hx⟩, fun h => BareA.mk (h.p0 (by rw [HKV.o]; decide)) (h.e0 HE1.o) (h.v0 HV1.o) (h.t0 (by rw [HKV.o]; decide))⟩);have HB9 := iH (bl_trans (bl_alloc (Below.drew (bl_a _)) _) hb9);clear hq9 hb9;go_wp2;go_ret;exact Tells.of HE.o HB9.o
def RowP (w : World) (g : Nat) (sz : Nat) (a : Option Addr) (n : Nat) (C : Nat → List Value) : Prop :=
 n = 0 ∨ ∃ b off, a = some ⟨b, off, none⟩ ∧ b < w.heap.size ∧ b ≠ g ∧ ∀ i, i < n → ∀ c u, (C i)[c]? = some u → w.cell? ⟨b, off + i * sz + c, none⟩ = some u
theorem RowP.of_krow {sz : Nat} {a : Option Addr} {C : Nat → List Value} (h : KRow 0 w0 sz a n C) (hb : Bl w0 w) (hg : w0.heap.size ≤ g) : RowP w g sz a n C := by
 rcases h with h | ⟨b, off, ha, _, hlt, hc⟩
 · exact .inl h
 exact .inr ⟨b, off, ha, Nat.lt_of_lt_of_le hlt hb.size, by omega, fun i hi c u hu => (hb.cell (p := ⟨b, off + i * sz + c, none⟩) hlt).trans (hc i hi c u hu)⟩
theorem algsOk_any (a : Option Addr) (n cap : Nat) (f : Nat → AT) (ok : Nat → Prop) (sz : Nat → Nat) (p q L : Int) (g : Nat) (w0 w : World) (hR : RowP w g 13 a n (fun i => (f i).d.cells)) (hw : Bl w0 w) (hg : w0.heap.size ≤ g) (hc : Ctr w g L) (hn : n ≤ 1048576) (hL0 : 0 ≤ L) (hL1 : L ≤ 100000)
 (IH : ∀ i, i < n → ∀ (L' : Int) (W : World), Bl w0 W → Ctr W g L' → 0 ≤ L' → L' ≤ 100000 → Calls Tryz.prog 117 #[.pointer (some ⟨g, 0, none⟩), .agg (cAA p q ((f i).d))] W (CtrAns (ok i) (sz i) g L' W)) :
 Calls Tryz.prog 82 #[.pointer (some ⟨g, 0, none⟩), .agg #[.int .i64 p, .int .i64 q], .slice a n cap] w (CtrAns (∀ i, i < n → ok i) (sumN n sz) g L w) := by
 have hgw : g < w.heap.size := hc.lt;have hsz : w0.heap.size ≤ w.heap.size := hw.size;have HIH : Hd (∀ i, i < n → ∀ (L' : Int) (W : World), Bl w0 W → Ctr W g L' → 0 ≤ L' → L' ≤ 100000 → Cl 117 #[.pointer (some ⟨g, 0, none⟩), .agg (cAA p q ((f i).d))] W (CtrAns (ok i) (sz i) g L' W)) := IH;have HC0 : Hd (CS w0 w (w.alloc (.cells #[.int .i64 p, .int .i64 q] 134)) g L [.int .i64 p, .int .i64 q]) := ⟨Box.new w #[.int .i64 p, .int .i64 q] 134 (0, 0), hc.below (bl_a _), Past.of_below (bl_a _), hw.trans ((bl_a _).mono hsz)⟩;clear IH hw hc;by_cases hn1 : n = 0
 · subst hn1
   clear hR;go_enter Tryz.func82, Tryz.ntmps82;go_wp2_with fail
   go_loopw [11] (fun i wr => i = .int .i64 0 ∧ Hd (CS w0 w wr g L [.int .i64 p, .int .i64 q])) (fun _ _ => 0)
   case atStart => exact ⟨rfl, HC0⟩
   obtain ⟨rfl, HCr⟩ := hrel;go_wp2;go_ret;have h5 : sumN 0 sz = 0 := rfl;exact CtrAns.yes (fun i hi => absurd hi nN) (by omega) (by omega) HCr.o.ct HCr.o.pa
 obtain ⟨b, off, rfl, hbk, hbg, hck⟩ := hR.resolve_left hn1;have HCK : Hd (∀ i, i < n → ∀ c u, ((f i).d.cells)[c]? = some u → w.cell? ⟨b, off + i * 13 + c, none⟩ = some u) := hck;clear hck hR hn1;go_enter Tryz.func82, Tryz.ntmps82;go_wp2_with fail
 go_loopw [11] (fun i wr => ∃ (k : Nat) (Lr : Int), k ≤ n ∧ i = .int .i64 k ∧ 0 ≤ Lr ∧ Lr ≤ 100000 ∧ Hd (Lr = L - (sumN k sz : Nat)) ∧ Hd (∀ j, j < k → ok j) ∧ Hd (CS w0 w wr g Lr [.int .i64 p, .int .i64 q])) (fun i _ => n - (intOf i).toNat)
 case atStart => exact ⟨0, L, nZ, rfl, hL0, hL1, (show L = L - ((0 : Nat) : Int) by omega), fun j hj => absurd hj nN, HC0⟩
 clear HC0;obtain ⟨k, Lr, hk, rfl, hLr0, hLr1, HLR, HOKS, HCr⟩ := hrel;by_cases hlk : k < n;rotate_left
 · obtain rfl : k = n := by omega
   have hlkz : ¬ (k : Int) < (k : Int) := by omega
   go_wp2;go_ret;have h4 := HLR.o;exact CtrAns.yes HOKS.o (by omega) (by omega) HCr.o.ct HCr.o.pa
 have hlkz : (k : Int) < (n : Int) := by omega
 have hcx : wr.rangeAt b (off + k * 13) (f k).d.cl := fun c u hu => (World.cell?_of_block (w := w) (a := ⟨b, off + k * 13 + c, none⟩) (HCr.o.pa.block b hbk hbg)).trans (HCK.o k hlk c u hu);have x0 := fun o => ((bl_a (w := wr) o).cell (p := ⟨w.heap.size, 0, none⟩) HCr.o.bx.1).trans (HCr.o.bx.2 0 _ rfl);have x1 := fun o => ((bl_a (w := wr) o).cell (p := ⟨w.heap.size, 1, none⟩) HCr.o.bx.1).trans (HCr.o.bx.2 1 _ rfl);go_wp2_with (with_reducible refine wpl_at ?_; refine wpList_load_mid rfl 52 _ rfl _ _ rfl (f k).d.cl _ hcx Tryz.underlying52 rfl (by kernel_rfl) ?_; try simp only [Act.put, sA, zA, cA])
 refine (HIH.o k hlk Lr _ (HCr.o.bl.trans ((bl_a _).mono HCr.o.bl.size)) (HCr.o.ct.below (bl_a _)) hLr0 hLr1).mono ?_;rintro e w5 ⟨q5, L5, rfl, hq5, hL5, hc5, hp5⟩;have HC5 : Hd (CS w0 w w5 g L5 [.int .i64 p, .int .i64 q]) := (HCr.o.below HCr.o.bl.size (bl_a _)).past hg hgw hp5 hc5;have HS : Hd (sumN (k + 1) sz = sumN k sz + sz k) := rfl;clear hcx x0 x1 hc5 hp5 HCr;cases q5
 · have HNO : Hd (¬ ((∀ i, i < n → ok i) ∧ ((sumN n sz : Nat) : Int) ≤ L)) := fun hh => by
    have h1 := hh.1 k hlk;have h3 := sumN_mono (f := sz) (show k + 1 ≤ n by omega);have h4 := HLR.o;have h5 := HS.o;have h6 := hh.2;have h7 := hq5.2 ⟨h1, by omega⟩
    cases h7
   clear hq5 hL5;go_wp2;go_ret;exact CtrAns.no HNO.o HC5.o.ct HC5.o.pa
 obtain ⟨h51, h52⟩ := hq5.1 rfl;have h53 := hL5 rfl;have HN5 : Hd (ok k) := h51;have HL5 : Hd (L5 = L - (sumN (k + 1) sz : Nat)) := (show L5 = _ by have h1 := HS.o; have h2 := HLR.o; omega);have hL50 : 0 ≤ L5 := by omega
 have hL51 : L5 ≤ 100000 := by omega
 clear h51 h52 h53 hq5 hL5;go_wp2;go_roundw
 case rel =>
  refine ⟨k + 1, L5, by omega, by go_num, hL50, hL51, HL5, fun j hj => ?_, HC5⟩
  by_cases e : j = k
  · subst e
    exact HN5.o
  exact HOKS.o j (by omega)
 case measure => simp [intOf]; omega
theorem algOk_any (e : AT) : ∀ (p L : Int) (g : Nat) (w0 w : World), e.lies 0 w0 → Bl w0 w → w0.heap.size ≤ g → Ctr w g L → 0 ≤ p → p ≤ 100000 → 0 ≤ L → L ≤ 100000 →
 Calls Tryz.prog 117 #[.pointer (some ⟨g, 0, none⟩), .agg (cAA p 240 e.d)] w (CtrAns (aOk e p) (asz e) g L w) := by
 induction e with
 | nil => exact fun _ _ _ _ _ h => False.elim h
 | mk d kid ih =>
  intro p L g w0 w hl hw hg hc hp0 hp1 hL0 hL1;show Calls Tryz.prog 117 #[.pointer (some ⟨g, 0, none⟩), .agg (cAA p 240 d)] w (CtrAns (aOk (.mk d kid) p) (asz (.mk d kid)) g L w);have hgw : g < w.heap.size := hc.lt;have hsz : w0.heap.size ≤ w.heap.size := hw.size;have HOWN : Hd (∀ W, Bl w0 W → Cl 141 #[.agg d.ar] W (Tells (HasA d) W)) := fun W hb => hasOwnA_any d kid W (AT.lies.upper (uB hb) hl);obtain ⟨_, _, hpn, he, _, _, _, hn, hR, hk⟩ := hl;have HEXP : Hd (∀ (L' : Int) (W : World), Bl w0 W → Ctr W g L' → 0 ≤ L' → L' ≤ 100000 → Cl 127 #[.pointer (some ⟨g, 0, none⟩), .agg #[.int .i64 1, .int .i64 120, .int .i64 d.e.d.k, .int .i64 d.e.d.op, .slice d.e.d.v.a d.e.d.v.len d.e.d.v.cap, .int .i64 d.e.d.t.t.k, .slice d.e.d.t.t.a d.e.d.t.t.len d.e.d.t.t.cap, .int .i64 d.e.d.t.t.n, .int .i64 d.e.d.t.t.s, .slice d.e.d.ka d.e.d.n d.e.d.kc]] W (CtrAns (eOk 120 d.e 1) (esz d.e) g L' W)) := fun L' W hb hc' h0 h1 => exprOk_any d.e 1 120 L' g w0 W he hb hg hc' (by omega) (by omega) (by omega) h0 h1;have HIH : Hd (∀ i, i < d.n → ∀ (L' : Int) (W : World), Bl w0 W → Ctr W g L' → 0 ≤ L' → L' ≤ 100000 → p ≤ 240 → Cl 117 #[.pointer (some ⟨g, 0, none⟩), .agg (cAA (p + 1) 240 ((kid i).d))] W (CtrAns (aOk (kid i) (p + 1)) (asz (kid i)) g L' W)) := fun i hi L' W hb hc' h0 h1 h10 => ih i (p + 1) L' g w0 W (hk i hi) hb hg hc' (by omega) (by omega) h0 h1;have HKR : Hd (KRow 0 w0 13 d.ka d.n (fun i => (kid i).d.cells)) := hR;have HNB : Hd (d.n ≤ 1048576) := hn;have HPB : Hd (d.pn ≤ 1048576) := hpn;have HCS : Hd (CS w0 w (w.alloc (.cells (cAA p 240 d) 170)) g L (cAL p 240 d)) := ⟨Box.new w (cAA p 240 d) 170 (0, 0), hc.below (bl_a _), Past.of_below (bl_a _), hw.trans ((bl_a _).mono hsz)⟩;have AD := admits_any g L p 240 _ HCS.o.ct hL0 hL1;have HSZ : Hd (asz (.mk d kid) = ownA d + sumN d.n (fun i => asz (kid i))) := rfl;have HOW : Hd (1 + d.pn ≤ ownA d) := (show _ ≤ _ by unfold ownA; omega);clear he hpn hn hR hk ih hw hc;go_enter Tryz.func117, Tryz.ntmps117;go_wp2_with fail
  refine AD.mono ?_;rintro e w1 ⟨q1, rfl, hq1', hc1, hp1'⟩;have HC1 : Hd (CS w0 w w1 g (L - 1) (cAL p 240 d)) := HCS.o.past hg hgw hp1' hc1;clear AD hc1 hp1' HCS;cases q1
  · have HNO : Hd (¬ (aOk (.mk d kid) p ∧ ((asz (.mk d kid) : Nat) : Int) ≤ L)) := fun hh => by
     have h1 := HSZ.o;have h0 := HOW.o;have h2 := hh.2;have h3 := hh.1.1;have h4 := hq1'.2 ⟨by omega, h3⟩
     cases h4
    clear hq1';go_wp2;go_ret;exact CtrAns.no HNO.o HC1.o.ct HC1.o.pa
  obtain ⟨hLp, hpq⟩ := hq1'.1 rfl;clear hq1';have y2 := HC1.o.bx.2 2 _ rfl;have y3 := HC1.o.bx.2 3 _ rfl;have y4 := HC1.o.bx.2 4 _ rfl;have y5 := HC1.o.bx.2 5 _ rfl;have y6 := HC1.o.bx.2 6 _ rfl;have y7 := HC1.o.bx.2 7 _ rfl;have y8 := HC1.o.bx.2 8 _ rfl;have y9 := HC1.o.bx.2 9 _ rfl;have y10 := HC1.o.bx.2 10 _ rfl;have y11 := HC1.o.bx.2 11 _ rfl;have y12 := HC1.o.bx.2 12 _ rfl;have y13 := HC1.o.bx.2 13 _ rfl;have y14 := HC1.o.bx.2 14 _ rfl;have OW := HOWN.o w1 HC1.o.bl;go_wp2_with fail
  refine OW.mono ?_;rintro e w2 ⟨q2, rfl, hq2, hb2⟩;have HC2 : Hd (CS w0 w w2 g (L - 1) (cAL p 240 d)) := HC1.o.below HC1.o.bl.size hb2;clear OW hb2 HC1 HOWN y2 y3 y4 y5 y6 y7 y8 y9 y10 y11 y12 y13 y14;cases q2
  · have HNO : Hd (¬ (aOk (.mk d kid) p ∧ ((asz (.mk d kid) : Nat) : Int) ≤ L)) := fun hh => by
     have h := hq2.2 (HasA.node.1 hh.1.2.1).1;cases h
    clear hq2;go_wp2;go_ret;exact CtrAns.no HNO.o HC2.o.ct HC2.o.pa
  have HOWN2 : Hd (HasA d) := hq2.1 rfl;clear hq2;have y3 := HC2.o.bx.2 3 _ rfl;have SP := spares_any g (L - 1) d.pn w2 HC2.o.ct (by omega) (by omega) (by omega) (by have := HPB.o; omega);go_wp2_with fail
  refine SP.mono ?_;rintro e w3 ⟨rfl, hc3, hp3⟩;have HC3 : Hd (CS w0 w w3 g (L - 1 - (d.pn : Int)) (cAL p 240 d)) := HC2.o.past hg hgw hp3 hc3;clear SP hc3 hp3 HC2 y3;by_cases hs : 0 ≤ L - 1 - (d.pn : Int);rotate_left
  · have hsd : decide (0 ≤ L - 1 - (d.pn : Int)) = false := by simp; omega
    have HNO : Hd (¬ (aOk (.mk d kid) p ∧ ((asz (.mk d kid) : Nat) : Int) ≤ L)) := fun hh => by
     have h1 := HSZ.o;have h0 := HOW.o;have h2 := hh.2;omega
    rw [hsd];clear hs hsd;go_wp2;go_ret;exact CtrAns.no HNO.o HC3.o.ct HC3.o.pa
  have hsd : decide (0 ≤ L - 1 - (d.pn : Int)) = true := by simp; omega
  rw [hsd];clear hsd;obtain ⟨L3, hL3⟩ : ∃ L3, L3 = L - 1 - (d.pn : Int) := ⟨_, rfl⟩;rw [← hL3] at HC3;have HL3 : Hd (L3 = L - 1 - (d.pn : Int)) := hL3;have h30 : 0 ≤ L3 := by omega
  have h31 : L3 ≤ 100000 := by omega
  clear hL3 hs;have y2 := HC3.o.bx.2 2 _ rfl;have y3 := HC3.o.bx.2 3 _ rfl;have y4 := HC3.o.bx.2 4 _ rfl;have y5 := HC3.o.bx.2 5 _ rfl;have y6 := HC3.o.bx.2 6 _ rfl;have y7 := HC3.o.bx.2 7 _ rfl;have y8 := HC3.o.bx.2 8 _ rfl;have y9 := HC3.o.bx.2 9 _ rfl;have y10 := HC3.o.bx.2 10 _ rfl;have y11 := HC3.o.bx.2 11 _ rfl;have y12 := HC3.o.bx.2 12 _ rfl;have y13 := HC3.o.bx.2 13 _ rfl;have y14 := HC3.o.bx.2 14 _ rfl;go_wp2_with fail
  refine (hasExpr_any d w3).mono ?_;rintro e w4 ⟨q4, rfl, hq4, hb4⟩;have HC4 : Hd (CS w0 w w4 g L3 (cAL p 240 d)) := HC3.o.below HC3.o.bl.size hb4;clear hb4 HC3 y2 y3 y4 y5 y6 y7 y8 y9 y10 y11 y12 y13 y14;cases q4
  · have HNE : Hd (¬ hasE d.k) := fun hh => by have h := hq4.2 hh; cases h
    have HEX : Hd (hasE d.k → eOk 120 d.e 1) := fun h => absurd h HNE.o;have HLX : Hd (L3 = L - (ownA d : Nat)) := (show _ = _ by have h1 := HL3.o; have h2 : ownA d = 1 + 0 + d.pn := (show 1 + (if d.k = 2 ∨ d.k = 5 ∨ d.k = 6 then esz d.e else 0) + d.pn = _ by rw [if_neg (show ¬ (d.k = 2 ∨ d.k = 5 ∨ d.k = 6) from HNE.o)]); omega);have hX0 := h30;have hX1 := h31;clear hq4 HL3 HNE HEXP;go_upto_region 5 with fail
    refine whd (fun w' => Bl w0 w' ∧ Box w' w.heap.size (cAL p 240 d)) ?_ fun hHeld => ?_
    · exact ⟨Below.drew HC4.o.bl, HC4.o.bx.below bdr⟩
    refine tkB 0 38 ?_;refine tkB 1 39 ?_;refine tkA 2 40 (v := ?v3) ?y3 ?_
    case y3 => (intro w' hSw; have q1 := hSw.2.2 0 _ rfl; have q2 := hSw.2.2 1 _ rfl; go_simp; (try with_reducible rfl))
    refine tkB 4 42 ?_;refine tkB 5 43 ?_;refine tkA 6 44 (v := ?v6) ?y6 ?_
    case y6 => (intro w' hSw; have q1 := hSw.2.2 14 _ rfl; go_simp; (try with_reducible rfl))
    try simp only [Act.put, sA, zA, cA]
    refine rdA 3 fun K hK => ?_;go_simp;refine (placeBelow_any p 240 _ hp0 hp1).mono ?_;rintro e z1 ⟨rfl, hb1⟩;have HCz : Hd (CS w0 w z1 g L3 (cAL p 240 d)) := (HC4.o.below HC4.o.bl.size bdr).below (HC4.o.below HC4.o.bl.size bdr).bl.size hb1;clear hb1;go_wp2_with fail
    refine rhK hK ⟨HCz.o.bl, HCz.o.bx⟩ fun hHeld => ?_;clear hK K;refine rdA 7 fun K hK => ?_;go_simp;refine (algsOk_any d.ka d.n d.kc kid (fun i => aOk (kid i) (p + 1)) (fun i => asz (kid i)) (p + 1) 240 L3 g w0 z1 (RowP.of_krow HKR.o HCz.o.bl hg) HCz.o.bl hg HCz.o.ct HNB.o hX0 hX1 (fun i hi L' W hb hc' h0 h1 => HIH.o i hi L' W hb hc' h0 h1 hpq)).mono ?_;rintro e w5 ⟨q5, L5, rfl, hq5, hL5, hc5, hp5⟩;have HC5 : Hd (CS w0 w w5 g L5 (cAL p 240 d)) := HCz.o.past hg hgw hp5 hc5;have HE : Hd (q5 = true ↔ aOk (.mk d kid) p ∧ ((asz (.mk d kid) : Nat) : Int) ≤ L) := (show (q5 = true ↔ _) from hq5.trans ⟨fun h => ⟨⟨hpq, HasA.node.2 ⟨HOWN2.o, HEX.o⟩, h.1⟩, by have h1 := HSZ.o; have h2 := HLX.o; have h3 := h.2; omega⟩, fun h => ⟨h.1.2.2, by have h1 := HSZ.o; have h2 := HLX.o; have h3 := h.2; omega⟩⟩);have HLL : Hd (q5 = true → L5 = L - (asz (.mk d kid) : Nat)) := (show (q5 = true → _) from fun h => by have h0 := hL5 h; have h1 := HSZ.o; have h2 := HLX.o; omega);clear hq5 hL5 hc5 hp5;go_wp2_with fail
    refine hK.out _ _ ?_ fun hHeld => ?_
    · exact ⟨HC5.o.bl, HC5.o.bx⟩
    clear hK K;refine tkB 8 4 ?_;refine wpAnyH_done (by kernel_rfl) ?_ _;clear hHeld HCz;go_wp2;go_ret;exact ⟨q5, L5, rfl, HE.o, HLL.o, HC5.o.ct, HC5.o.pa⟩
  have HYE : Hd (hasE d.k) := hq4.1 rfl;clear hq4;have y4 := HC4.o.bx.2 4 _ rfl;have y5 := HC4.o.bx.2 5 _ rfl;have y6 := HC4.o.bx.2 6 _ rfl;have y7 := HC4.o.bx.2 7 _ rfl;have y8 := HC4.o.bx.2 8 _ rfl;have y9 := HC4.o.bx.2 9 _ rfl;have y10 := HC4.o.bx.2 10 _ rfl;have y11 := HC4.o.bx.2 11 _ rfl;go_wp2_with fail
  refine (HEXP.o L3 w4 HC4.o.bl HC4.o.ct h30 h31).mono ?_;rintro e w6 ⟨q6, L6, rfl, hq6, hL6, hc6, hp6⟩;have HC6 : Hd (CS w0 w w6 g L6 (cAL p 240 d)) := HC4.o.past hg hgw hp6 hc6;clear hc6 hp6 HC4 HEXP y4 y5 y6 y7 y8 y9 y10 y11;have HOE : Hd (ownA d = 1 + esz d.e + d.pn) := (show 1 + (if d.k = 2 ∨ d.k = 5 ∨ d.k = 6 then esz d.e else 0) + d.pn = _ by rw [if_pos (show d.k = 2 ∨ d.k = 5 ∨ d.k = 6 from HYE.o)]);cases q6
  · have HNO : Hd (¬ (aOk (.mk d kid) p ∧ ((asz (.mk d kid) : Nat) : Int) ≤ L)) := fun hh => by
     have h1 := HSZ.o;have h0 := HOE.o;have h2 := hh.2;have h3 := HL3.o;have h := hq6.2 ⟨hh.1.2.1.e1 HYE.o, by omega⟩
     cases h
    clear hq6 hL6;go_wp2;go_ret;exact CtrAns.no HNO.o HC6.o.ct HC6.o.pa
  obtain ⟨h61, h62⟩ := hq6.1 rfl;have h63 := hL6 rfl;have HEX : Hd (hasE d.k → eOk 120 d.e 1) := fun _ => h61;have HLX : Hd (L6 = L - (ownA d : Nat)) := (show _ = _ by have h1 := HL3.o; have h2 := HOE.o; omega);have hX0 : 0 ≤ L6 := by omega
  have hX1 : L6 ≤ 100000 := by omega
  clear h61 h62 h63 hq6 hL6 HL3 HYE HOE;go_upto_region 5 with fail
  refine whd (fun w' => Bl w0 w' ∧ Box w' w.heap.size (cAL p 240 d)) ?_ fun hHeld => ?_
  · exact ⟨Below.drew HC6.o.bl, HC6.o.bx.below bdr⟩
  refine tkB 0 38 ?_;refine tkB 1 39 ?_;refine tkA 2 40 (v := ?v10) ?y10 ?_
  case y10 => (intro w' hSw; have q1 := hSw.2.2 0 _ rfl; have q2 := hSw.2.2 1 _ rfl; go_simp; (try with_reducible rfl))
  refine tkB 4 42 ?_;refine tkB 5 43 ?_;refine tkA 6 44 (v := ?v13) ?y13 ?_
  case y13 => (intro w' hSw; have q1 := hSw.2.2 14 _ rfl; go_simp; (try with_reducible rfl))
  try simp only [Act.put, sA, zA, cA]
  refine rdA 3 fun K hK => ?_;go_simp;refine (placeBelow_any p 240 _ hp0 hp1).mono ?_;rintro e z1 ⟨rfl, hb1⟩;have HCz : Hd (CS w0 w z1 g L6 (cAL p 240 d)) := (HC6.o.below HC6.o.bl.size bdr).below (HC6.o.below HC6.o.bl.size bdr).bl.size hb1;clear hb1;go_wp2_with fail
  refine rhK hK ⟨HCz.o.bl, HCz.o.bx⟩ fun hHeld => ?_;clear hK K;refine rdA 7 fun K hK => ?_;go_simp;refine (algsOk_any d.ka d.n d.kc kid (fun i => aOk (kid i) (p + 1)) (fun i => asz (kid i)) (p + 1) 240 L6 g w0 z1 (RowP.of_krow HKR.o HCz.o.bl hg) HCz.o.bl hg HCz.o.ct HNB.o hX0 hX1 (fun i hi L' W hb hc' h0 h1 => HIH.o i hi L' W hb hc' h0 h1 hpq)).mono ?_;rintro e w5 ⟨q5, L5, rfl, hq5, hL5, hc5, hp5⟩;have HC5 : Hd (CS w0 w w5 g L5 (cAL p 240 d)) := HCz.o.past hg hgw hp5 hc5;have HE : Hd (q5 = true ↔ aOk (.mk d kid) p ∧ ((asz (.mk d kid) : Nat) : Int) ≤ L) := (show (q5 = true ↔ _) from hq5.trans ⟨fun h => ⟨⟨hpq, HasA.node.2 ⟨HOWN2.o, HEX.o⟩, h.1⟩, by have h1 := HSZ.o; have h2 := HLX.o; have h3 := h.2; omega⟩, fun h => ⟨h.1.2.2, by have h1 := HSZ.o; have h2 := HLX.o; have h3 := h.2; omega⟩⟩);have HLL : Hd (q5 = true → L5 = L - (asz (.mk d kid) : Nat)) := (show (q5 = true → _) from fun h => by have h0 := hL5 h; have h1 := HSZ.o; have h2 := HLX.o; omega);clear hq5 hL5 hc5 hp5;go_wp2_with fail
  refine hK.out _ _ ?_ fun hHeld => ?_
  · exact ⟨HC5.o.bl, HC5.o.bx⟩
  clear hK K;refine tkB 8 4 ?_;refine wpAnyH_done (by kernel_rfl) ?_ _;clear hHeld HCz;go_wp2;go_ret;exact ⟨q5, L5, rfl, HE.o, HLL.o, HC5.o.ct, HC5.o.pa⟩
theorem bytesEqual_any (x y : SL) (w : World) (hx : BsF 0 w x) (hy : BsF 0 w y) : Calls Tryz.prog 161 #[.slice x.a x.len x.cap, .slice y.a y.len y.cap] w (Tells (x.b = y.b) w) := by
 have c1 : (convert 23 9 (.slice x.a x.len x.cap)).run Tryz.prog w = .ok (.string (strOfNums x.b)) w := hx.1.str;have c2 : (convert 23 9 (.slice y.a y.len y.cap)).run Tryz.prog w = .ok (.string (strOfNums y.b)) w := hy.1.str;by_cases h : x.b = y.b
 · have HY := iH h
   rw [h] at c1;clear h hx hy;go_in;go_wp2;go_ret;exact Tells.yes HY.o brf
 have HNO := iH h;have hs := str_ne hx.1.byt hy.1.byt h;have hs0 := str_ne2 hx.1.byt hy.1.byt h;have hs1 := beq_false_of_ne hs0;have hs2 := decide_eq_false hs;clear h hx hy;go_in;go_wp2;go_ret;exact Tells.no HNO.o brf
theorem hasC_any (x y : SL) (c : Nat) (w : World) (hx : BsF 0 w x) (hy : BsF 0 w y) (hc : w.cell? ⟨c, 0, none⟩ = some (.slice x.a x.len x.cap)) : Calls Tryz.prog 160 #[.slice y.a y.len y.cap, .pointer (some ⟨c, 0, none⟩)] w (Tells (y.b = x.b) w) := by
 have BE := bytesEqual_any y x w hy hx;clear hx hy;obtain ⟨P, hP⟩ : ∃ P : Prop, P = (y.b = x.b) := ⟨_, rfl⟩;rw [← hP] at BE ⊢;clear hP;go_in;go_wp2_with fail
 refine BE.mono ?_;rintro e w1 ⟨q, rfl, hq, hb⟩;have HQ := iH hq;have HB := iH hb;clear hq hb BE hc;go_wp2;go_ret;exact Tells.of HQ.o HB.o
theorem indexV_any (v : Value) (L : List SL) (x : SL) (c B : Nat) (w0 w : World) (h : VL w0 w B v L) (hw : Bl w0 w) (hx : BsF 0 w0 x) (hn : L.length ≤ 1048576) (hcl : c < w.heap.size) (hc : w.cell? ⟨c, 0, none⟩ = some (.slice x.a x.len x.cap)) :
 Calls Tryz.prog 178 #[v, .func (.func 160) #[] #[.pointer (some ⟨c, 0, none⟩)]] w (IdxAns (¬ InL x.b L) w) := by
 obtain ⟨a, cap, rfl, hf⟩ := h.form;obtain ⟨n, hnn⟩ : ∃ n, n = L.length := ⟨_, rfl⟩;have HN := iH hnn;have HT := iH h.txt;have HX := iH hx;have HW := iH hw;have HCC := iH hc;rw [← hnn] at hn ⊢;by_cases hL : L = []
 · have HNI : Hd (¬ InL x.b L) := (show ¬ (x.b ∈ L.map SL.b) by rw [hL]; simp)
   have hn0 : n = 0 := by rw [hnn, hL]; rfl
   clear h hw hx hf hnn hL hc HN;subst hn0;go_in;go_wp2_with fail
   go_loopw [8] (fun i wr => i = .int .i64 0 ∧ Hd (Bl w wr)) (fun _ _ => 0)
   case atStart => exact ⟨rfl, Below.refl _ _⟩
   obtain ⟨rfl, HB⟩ := hrel;go_wp2;go_ret;exact IdxAns.of ⟨fun h => absurd h (by decide), fun h => absurd HNI.o h⟩ HB.o
 obtain ⟨g, rfl, _, hg, hcs⟩ := hf.resolve_left hL;have HCS := iH hcs;clear h hw hx hf hnn hL hc hcs;go_in;go_wp2_with fail
 go_loopw [8] (fun i wr => ∃ k : Nat, k ≤ n ∧ i = .int .i64 k ∧ Hd (∀ j y, j < k → L[j]? = some y → y.b ≠ x.b) ∧ Hd (Bl w wr)) (fun i _ => n - (intOf i).toNat)
 case atStart => exact ⟨0, nZ, rfl, fun j y hj => absurd hj nN, Below.refl _ _⟩
 obtain ⟨k, hk, rfl, HNE, HB⟩ := hrel;by_cases hlk : k < n;rotate_left
 · obtain rfl : k = n := by omega
   have hlkz : ¬ (k : Int) < (k : Int) := by omega
   have HNI : Hd (¬ InL x.b L) := fun hm => by
    obtain ⟨y, hy, e⟩ := List.mem_map.1 hm;obtain ⟨j, hj, rfl⟩ := List.getElem_of_mem hy;exact HNE.o j _ (by rw [HN.o]; exact hj) (List.getElem?_eq_getElem hj) e
   go_wp2;go_ret;exact IdxAns.of ⟨fun h => absurd h (by decide), fun h => absurd HNI.o h⟩ HB.o
 have hlkz : (k : Int) < (n : Int) := by omega
 obtain ⟨y, hy⟩ : ∃ y, L[k]? = some y := ⟨_, List.getElem?_eq_getElem (by rw [← HN.o]; exact hlk)⟩;have HY := iH hy;have HTY := iH (HT.o y (List.mem_of_getElem? hy));have y0 := (HB.o.cell (p := ⟨g, k, none⟩) hg).trans (HCS.o k y hy);clear hy;go_wp2_with fail
 refine (hasC_any x y c wr (HX.o.upper (uB (bl_trans HW.o HB.o))) (HTY.o.upper (uB (bl_trans HW.o HB.o))) ((HB.o.cell (p := ⟨c, 0, none⟩) hcl).trans HCC.o)).mono ?_;rintro e w1 ⟨q1, rfl, hq1, hb1⟩;have HB1 := iH (bl_trans HB.o hb1);clear hb1 HB y0;cases q1 with
 | true =>
  have HIN : Hd (InL x.b L) := (show x.b ∈ L.map SL.b by rw [← hq1.1 rfl]; exact List.mem_map_of_mem (f := SL.b) (List.mem_of_getElem? HY.o));clear hq1;go_wp2;go_ret;exact IdxAns.of ⟨fun _ h => h HIN.o, fun _ => by omega⟩ HB1.o
 | false =>
  have HYX : Hd (y.b ≠ x.b) := fun hh => by have h := hq1.2 hh; cases h
  clear hq1;go_wp2;go_roundw
  case rel =>
   refine ⟨k + 1, by omega, by go_num, fun j z hj hz => ?_, HB1⟩
   by_cases e : j = k
   · subst e
     rw [HY.o] at hz;cases hz;exact HYX.o
   exact HNE.o j z (by omega) hz
  case measure => simp [intOf]; omega
theorem containsV_any (v : Value) (L : List SL) (x : SL) (c B : Nat) (w0 w : World) (h : VL w0 w B v L) (hw : Bl w0 w) (hx : BsF 0 w0 x) (hn : L.length ≤ 1048576) (hcl : c < w.heap.size) (hc : w.cell? ⟨c, 0, none⟩ = some (.slice x.a x.len x.cap)) :
 Calls Tryz.prog 159 #[v, .func (.func 160) #[] #[.pointer (some ⟨c, 0, none⟩)]] w (Tells (InL x.b L) w) := by
 have IX := indexV_any v L x c B w0 w h hw hx hn hcl hc;obtain ⟨P, hP⟩ : ∃ P : Prop, P = InL x.b L := ⟨_, rfl⟩;rw [← hP] at IX ⊢;obtain ⟨a, cap, rfl, _⟩ := h.form;clear hP h hw hx hn hcl hc;go_in;go_wp2_with fail
 refine IX.mono ?_;rintro e w1 ⟨v, rfl, hv, hb⟩;have HV := iH hv;have HB := iH hb;clear IX hv hb;go_wp2;go_ret;refine Tells.of ?_ HB.o;rw [← Classical.not_not (a := P), ← HV.o];simp
theorem has_any (v : Value) (L : List SL) (x : SL) (B : Nat) (w0 w : World) (h : VL w0 w B v L) (hw : Bl w0 w) (hx : BsF 0 w0 x) (hn : L.length ≤ 1048576) :
 Calls Tryz.prog 144 #[v, .slice x.a x.len x.cap] w (Tells (InL x.b L) w) := by
 have hsz := hw.size;have HC := iH (fun o (ho : (w.alloc o).cell? _ = some _) => containsV_any v L x w.heap.size B w0 (w.alloc o) (h.below (bl_a o)) (hw.trans ((bl_a o).mono hsz)) hx hn (by simp) ho);obtain ⟨P, hP⟩ : ∃ P : Prop, P = InL x.b L := ⟨_, rfl⟩;rw [← hP] at HC ⊢;obtain ⟨a, cap, rfl, _⟩ := h.form;clear hP h hw hx hn;go_in;go_wp2_with fail
 refine (HC.o _ (by simp [go_sem])).mono ?_;rintro e w1 ⟨q, rfl, hq, hb⟩;have HQ := iH hq;have HB := iH (bl_trans (bl_a _) hb);clear HC hq hb;go_wp2;go_ret;exact Tells.of HQ.o HB.o
structure KQ (g : Nat) (v : Value) (w : World) (v' : Value) (w' : World) : Prop where
 os : w'.os = w.os
 tape : w'.tape = w.tape
 output : w'.output = w.output
 size : w.heap.size ≤ w'.heap.size
 block : ∀ b, b < w.heap.size → b ≠ g → v.ownBlock ≠ some b → w'.heap[b]? = w.heap[b]?
 blk : ∀ c, v'.ownBlock = some c → v.ownBlock = some c ∨ w.heap.size ≤ c
theorem KQ.of_kp (h : Kp v w v' w') : KQ g v w v' w' := ⟨h.os, h.tape, h.output, h.size, fun b hb _ hn => h.block b hb hn, h.blk⟩
theorem KQ.of_below (h : Bl w w') : KQ g v w v w' := .of_kp (.of_below h)
theorem KQ.trans {v'' : Value} (h : KQ g v w v' w') (k : KQ g v' w' v'' w'') : KQ g v w v'' w'' :=
 ⟨k.os.trans h.os, k.tape.trans h.tape, k.output.trans h.output, Nat.le_trans h.size k.size, fun b hb hg hn => (k.block b (Nat.lt_of_lt_of_le hb h.size) hg (fun e => by
  rcases h.blk b e with e' | e'
  · exact hn e'
  · omega)).trans (h.block b hb hg hn), fun c hc => by
  rcases k.blk c hc with e | e
  · exact h.blk c e
  exact .inr (Nat.le_trans h.size e)⟩
theorem KQ.past (h : KQ g v w v' w') (k : Past g w' w'') : KQ g v w v' w'' :=
 ⟨k.os.trans h.os, k.tape.trans h.tape, k.output.trans h.output, Nat.le_trans h.size k.size, fun b hb hg hn => (k.block b (Nat.lt_of_lt_of_le hb h.size) hg).trans (h.block b hb hg hn), h.blk⟩
theorem KQ.box {L : List Value} (h : KQ g v w v' w') (hx : Box w b L) (hg : b ≠ g) (hn : v.ownBlock ≠ some b) : Box w' b L := ⟨Nat.lt_of_lt_of_le hx.1 h.size, fun c u hu => (World.cell?_of_block (w := w) (a := ⟨b, c, none⟩) (h.block b hx.1 hg hn)).trans (hx.2 c u hu)⟩
theorem KQ.low (h : KQ g v w v' w') (hv : ∀ c, v.ownBlock = some c → B ≤ c) (hg : B ≤ g) (hB : B ≤ w.heap.size) : Below B w w' := ⟨h.os, h.tape, h.output, h.size, fun b hb => h.block b (by omega) (by omega) (fun e => by have := hv b e; omega)⟩
structure VQ (w0 w : World) (B g : Nat) (v : Value) (L : List SL) : Prop where
 cell : w.cell? ⟨g, 0, none⟩ = some v
 fr : w.frozen? ⟨g, 0, none⟩ = false
 lt : g < w.heap.size
 vl : VL w0 w B v L
 ne : v.ownBlock ≠ some g
 lo : w0.heap.size ≤ B
 gl : w0.heap.size ≤ g
 bl : Bl w0 w
 sz : B ≤ w.heap.size
theorem VQ.below {L : List SL} (h : VQ w0 w B g v L) (hb : Bl w w') : VQ w0 w' B g v L :=
 ⟨(hb.cell (p := ⟨g, 0, none⟩) h.lt).trans h.cell, (hb.frozen (p := ⟨g, 0, none⟩) h.lt).trans h.fr, Nat.lt_of_lt_of_le h.lt hb.size, h.vl.below hb, h.ne, h.lo, h.gl, h.bl.trans (hb.mono h.bl.size), Nat.le_trans h.sz hb.size⟩
def AddQ (w0 : World) (B g : Nat) (v : Value) (R : List (List Int)) (w : World) (e : Ending) (w' : World) : Prop := ∃ v' L', e = .returned (.tuple #[]) ∧ VQ w0 w' B g v' L' ∧ L'.map SL.b = R ∧ KQ g v w v' w'
theorem appQ (hgd : o.guard = none) (s x : Operand)
 (ho : o.op = .call { callee := .builtin .append, args := #[s, x], argTypes := #[135, 135] })
 (w0 : World) (B : Nat) (v : Value) (L : List SL) (hs : a.eval s = v) (HO : Hd (VL w0 w B v L)) (y : SL) (hy : BsF 0 w0 y)
 (ad : Addr) (c : Nat) (hx : a.eval x = .slice (some ad) 1 c) (HN : Hd (∀ j u, ([y.v] : List Value)[j]? = some u → w.cell? (ad.add j) = some u)) (hle : L.length ≤ 1048576) (hB : B ≤ w.heap.size)
 (h : ∀ g cap w', Hd (VL w0 w' B (.slice (some ⟨g, 0, none⟩) (L.length + 1) cap) (L ++ [y])) → Hd (Kp v w (.slice (some ⟨g, 0, none⟩) (L.length + 1) cap) w') → wpList Tryz.prog ops Q rest (a.put o.dst (.slice (some ⟨g, 0, none⟩) (L.length + 1) cap)) w') :
 wpList Tryz.prog ops Q (o :: rest) a w := by
 obtain ⟨i0, hi0, hzz⟩ := Option.map_eq_some_iff.1 Tryz.infoB23;simp only [Prod.mk.injEq] at hzz;obtain ⟨hi2, hi1, hi3⟩ := hzz;refine wpList_append_lies _ hgd s x 135 ho B 23 i0 (.slice none 0 0) 1 24 Tryz.underlying135 hi0 hi2 hi1 hi3 rfl (by omega) v L.length (L.map SL.v) hs HO.o.own ad 1 c [y.v] hx rfl HN.o (fun u hu => by simp only [List.mem_cons, List.not_mem_nil, or_false] at hu; rw [hu]; rfl) (by omega) (by unfold maxLen; omega) (by omega) hB _ rfl ?_;intro g cap w' hown hgr hat hlt;refine h g cap w' ⟨?_, fun g' hg' => ?_, fun z hz => ?_⟩ ⟨hgr.os, hgr.tape, hgr.output, hgr.size, fun b hb hn => hgr.block b hb (fun e => hn e.symm), fun g' hg' => ?_⟩
 · rw [List.map_append, List.length_append]
   exact hown
 · have : g = g' := by simpa [Value.ownBlock] using hg'
   subst this;rcases hown.2 with ⟨hv, _⟩ | ⟨g0, c0, cur, hv, hb, _⟩
   · cases hv
   cases hv; exact ⟨hb, hlt⟩
 · rcases List.mem_append.1 hz with hz | hz
   · exact HO.o.txt z hz
   rw [List.mem_singleton.1 hz];exact hy
 have : g = g' := by simpa [Value.ownBlock] using hg'
 subst this;rcases hat with e | e
 · exact .inl e
 exact .inr (by rw [e]; exact nR)
theorem VQ.put {w9 : World} {v9 : Value} {L L9 : List SL} (h : VQ w0 w B g v L) (hK : Kp v w v9 w9) (hV : VL w0 w9 B v9 L9) : VQ w0 (w9.setCell ⟨g, 0, none⟩ v9) B g v9 L9 ∧ KQ g v w v9 (w9.setCell ⟨g, 0, none⟩ v9) := by
 have hb := hK.block g h.lt h.ne;have hc := (World.cell?_of_block (w := w) (a := ⟨g, 0, none⟩) hb).trans h.cell;have hne : v9.ownBlock ≠ some g := fun e => by
  rcases hK.blk g e with e | e
  · exact h.ne e
  have := h.lt;omega
 have hp : Past g w9 (w9.setCell ⟨g, 0, none⟩ v9) := (Past.refl g w9).set 0 _;have hq := (KQ.of_kp hK).past hp;refine ⟨⟨set_same hc, ?_, Nat.lt_of_lt_of_le h.lt hq.size, hV.keep hp.size (fun c hc' => hp.block c (hV.lo c hc').2 (fun e => hne (by rw [← e]; exact hc'))), hne, h.lo, h.gl, ?_, Nat.le_trans h.sz hq.size⟩, hq⟩
 · rw [World.frozen?_setCell]
   exact (World.frozen?_of_block (w := w) (a := ⟨g, 0, none⟩) hb).trans h.fr
 exact h.bl.trans (hq.low (fun c hc' => Nat.le_trans h.lo (h.vl.lo c hc').1) h.gl h.bl.size)
theorem add_any (v : Value) (L : List SL) (x : SL) (B g : Nat) (w0 w : World) (h : VQ w0 w B g v L) (hx : BsF 0 w0 x) (hn : L.length ≤ 1000000) :
 Calls Tryz.prog 120 #[.pointer (some ⟨g, 0, none⟩), .slice x.a x.len x.cap] w (AddQ w0 B g v (addV (L.map SL.b) x.b) w) := by
 have HLX := iH (nil_len hx.1.1);have HV := iH h;have HX := iH hx;have HAS := has_any v L x B w0 w h.vl h.bl hx (by omega);obtain ⟨a, cap, rfl, _⟩ := h.vl.form;obtain ⟨n, hnn⟩ : ∃ n, n = L.length := ⟨_, rfl⟩;have HN := iH hnn;rw [← hnn] at HAS HV ⊢;clear h hx hnn;by_cases h0 : x.len = 0
 · have HR : Hd (addV (L.map SL.b) x.b = L.map SL.b) := (show addV _ _ = _ by unfold addV; rw [if_pos (.inl (HLX.o.2 h0))])
   clear HAS;go_in;go_wp2;go_end0;exact ⟨_, L, rfl, HV.o, HR.o.symm, KQ.of_below brf⟩
 have h0b : (0 : Int) < (x.len : Int) := by omega
 have h0c : 0 < x.len := by omega
 have H0 : Hd (¬ x.b = []) := fun e => h0 (HLX.o.1 e);have c0 := HV.o.cell;clear h0;go_in;go_wp2_with fail
 refine HAS.mono ?_;rintro e w1 ⟨q, rfl, hq, hb1⟩;have HB1 := iH hb1;clear HAS hb1 c0;cases q with
 | true =>
  have HR := iH (show addV _ _ = _ by unfold addV; rw [if_pos (.inr (hq.1 rfl))]);clear hq;go_wp2;go_end0;exact ⟨_, L, rfl, HV.o.below HB1.o, HR.o.symm, KQ.of_below HB1.o⟩
 | false =>
  have HR : Hd (addV (L.map SL.b) x.b = (L ++ [x]).map SL.b) := (show addV _ _ = _ by
   unfold addV
   rw [if_neg (fun hh => by
    rcases hh with hh | hh
    · exact H0.o hh
    have := hq.2 hh
    cases this), List.map_append]
   rfl)
  clear hq;have HV1 := iH (HV.o.below HB1.o);have HV2 := iH (fun o => HV1.o.below (bl_a o));have HO1 := iH (fun o => (HV2.o o).vl);have c1 := HV1.o.cell;have HCL : Hd (∀ o v' w9, Kp (.slice a n cap) (w1.alloc o) v' w9 → w9.cell? ⟨g, 0, none⟩ = some (.slice a n cap) ∧ w9.frozen? ⟨g, 0, none⟩ = false) := fun o v' w9 hK => ⟨(World.cell?_of_block (w := w1.alloc o) (a := ⟨g, 0, none⟩) (hK.block g (HV2.o o).lt (HV2.o o).ne)).trans (HV2.o o).cell, (World.frozen?_of_block (w := w1.alloc o) (a := ⟨g, 0, none⟩) (hK.block g (HV2.o o).lt (HV2.o o).ne)).trans (HV2.o o).fr⟩;have HNW : Hd (∀ j u, ([x.v] : List Value)[j]? = some u → (w1.alloc (.cells #[.slice x.a x.len x.cap] 23)).cell? ((⟨w1.heap.size, 0, none⟩ : Addr).add j) = some u) := by
   intro j u hu;have h1 : (w1.alloc (.cells #[.slice x.a x.len x.cap] 23)).heap[w1.heap.size]? = some (.cells #[.slice x.a x.len x.cap] 23) := by
    show (w1.heap.push _)[w1.heap.size]? = _;rw [Array.getElem?_push];simp
   exact World.news_of_block h1 j u hu
  have hle1 : L.length ≤ 1048576 := by have := HN.o; omega
  have hB1 := fun o => (HV2.o o).sz;go_wp2_with (refine appQ rfl (.tmp 18) (.tmp 20) rfl w0 B (.slice a n cap) L rfl (HO1.o _) x HX.o ⟨w1.heap.size, 0, none⟩ 1 rfl HNW hle1 (hB1 _) ?_; intro g9 k9 w9 HO9 HK9; obtain ⟨cc9, ff9⟩ := HCL.o _ _ _ HK9.o)
  go_end0;obtain ⟨r1, r2⟩ := (HV2.o _).put HK9.o HO9.o;exact ⟨_, _, rfl, r1, HR.o.symm, (KQ.of_below (bl_trans HB1.o (bl_a _))).trans r2⟩
theorem store_stopV (ty : TypeId) (s x : Operand)
 (_ho : o.op = .store ty s x) (h : Hd (wpList Tryz.prog ops Q (o :: rest) a w)) : wpList Tryz.prog ops Q (o :: rest) a w := h
theorem wpv_at (h : wpList P ops Q (op :: rest) a w) : wpList P ops Q (op :: rest) a w := h
structure VW where
 va : Option Addr
 vc : Nat
 vn : Nat
 var : Nat → SL
 s : SO
structure VR (w W : World) (x : VW) : Prop where
 bl : Bl w W
 x : Box W w.heap.size [.slice x.va x.vn x.vc, .slice x.s.a x.s.n x.s.cap]
 r : Own4 W (w.heap.size + 1) (.int .i64 0) (.slice none 0 0) (.int .i64 0) (.int .i64 0)
theorem tqB (i d : Nat) {v : Value} {a : Act}
 (h : wpAnyH P md ops Q S fuel (listed.setIfInBounds i true) a' w) (hS : S w := by assumption) (hi : ops[i]? = some oi := by rfl) (hd : oi.dst = some d := by rfl) (hk : (Region.noSelect ops && (Region.free md ops listed i && (Region.ready md ops listed).contains i)) = true := by kernel_rfl)
 (hQ : ∀ c a w, Q (.panic c) (a.put (some d) v) w → Q (.panic c) a w := by exact fun _ _ _ h => h) (hg : Region.wanted oi (yielded ops a.tmps) = true := by rfl) (hy : ∀ w, S w → (execOp a.eval oi).run P w = .ok (.value v) w := by intro w' hSw; go_simp; (try with_reducible rfl)) (ha : a.put (some d) v = a' := by (try simp only [Act.put, sA, zA, cA]); rfl) : wpAnyH P md ops Q S (fuel + 1) listed a w := by
 simp only [Bool.and_eq_true] at hk;exact takeq d hi hd hk.1 hk.2.1 hk.2.2 hQ (Or.inl ⟨hg, hy⟩) hS (ha ▸ h)
theorem ldq (i d : Nat) {ty : TypeId} {o : Nat} {dd : TypeDesc}
 (hu : P.underlying ty = some dd) (hc : ∀ w, S w → w.rangeAt b o cs) (h : wpAnyH P md ops Q S fuel (listed.setIfInBounds i true) a' w) (hS : S w := by assumption) (hi : ops[i]? = some oi := by rfl) (hd : oi.dst = some d := by rfl) (ho : oi.op = .load ty x := by rfl) (hx : a.eval x = .pointer (some ⟨b, o, none⟩) := by rfl) (hr : dd.isRow = true := by rfl) (hsz : (P.info? ty).map (·.size) = some cs.length := by kernel_rfl) (hk : (Region.noSelect ops && (Region.free md ops listed i && (Region.ready md ops listed).contains i)) = true := by kernel_rfl)
 (hQ : ∀ c a w, Q (.panic c) (a.put (some d) (.agg cs.toArray)) w → Q (.panic c) a w := by exact fun _ _ _ h => h) (hg : Region.wanted oi (yielded ops a.tmps) = true := by rfl) (ha : a.put (some d) (.agg cs.toArray) = a' := by (try simp only [Act.put, sA, zA, cA]); rfl) : wpAnyH P md ops Q S (fuel + 1) listed a w := by
 simp only [Bool.and_eq_true] at hk;exact takeq d hi hd hk.1 hk.2.1 hk.2.2 hQ (yieldsIf_load_mid hg ty x ho b o hx cs dd hc hu hr hsz) hS (ha ▸ h)
theorem rqA (i : Nat)
 (h : ∀ K' : Act → World → Prop, Shut (∀ a w, S w → (S w → wpAnyH P md ops Q S fuel (listed.setIfInBounds i true) a w) → K' a w) → if Region.wanted o (yielded ops a.tmps) = true then Oper.wp P o a w K' Q else K' (a.put o.dst undef) w)
 (hr : Region.ready md ops listed = [i] := by kernel_rfl) (ho : ops[i]? = some o := by rfl) : wpAnyH P md ops Q S (fuel + 1) listed a w := wpAnyH_ready hr (by simp) (AllReadyH.cons ho h AllReadyH.nil)
theorem wqd (S : World → Prop) {id : Nat} (hS : S w.drew) (h : S w.drew → wpAnyH P .any ops Q S ops.size (Array.replicate ops.size false) a w.drew) (hm : P.follows .mixedOrders = true := by kernel_rfl) : (Code.region id ops true).wp P Q a w := wp_region_held_drew hm hS h
theorem step_storeV (ty : TypeId) (b o : Nat) (cells : Array Value) (ht : w.there b o cells.size) (h1 : cells.all (·.oneCell') = true) {y : Operand}
 (h : K (a.put op.dst undef) (w.setCells b o cells.toList)) (hgd : op.guard = none := by rfl) (ho : op.op = .store ty x y := by rfl) (hx : a.eval x = .pointer (some ⟨b, o, none⟩) := by rfl) (hy : a.eval y = .agg cells := by rfl) (hi : (Tryz.prog.info? ty).map (·.size) = some cells.size := by kernel_rfl) : if Region.wanted op (yielded ops a.tmps) = true then Oper.wp Tryz.prog op a w K Q else E := by
 have hw : Region.wanted op (yielded ops a.tmps) = true := by simp [Region.wanted, hgd]
 rw [if_pos hw];exact wp_store_mid ty x y ho b o cells hx hy ht hi h1 h
theorem results_cell2 {fn : Func} {tmps : Array Value} {a : Nat} {t : TypeId} {ad : Addr} {u : Value} (hf : fn.results = #[.cell a t, .tmp b]) (ht : tmps.getD a undef = .pointer (some ad)) (hq : tmps.getD b undef = u) (hl : (loadVar t ad).run P w = .ok v w) : (results fn tmps).run P w = .ok (.tuple #[v, u]) w := by
 have h2 : tmps[a]?.getD undef = .pointer (some ad) := by simpa using ht
 have h3 : tmps[b]?.getD undef = u := by simpa using hq
 simp [results, hf, h2, h3, asAddr, hl]
theorem below_setCells (hB : B ≤ b) : ∀ (vs : List Value) (o : Nat) (w : World), Below B w0 w → Below B w0 (w.setCells b o vs)
 | [], _, _, h => h
 | v :: r, o, w, h => by
   rw [World.setCells]
   exact below_setCells hB r (o + 1) _ (h.setCell (p := ⟨b, o, none⟩) hB v)
theorem bs_of_cells (hl : bs.length = n) (hn : n ≤ 1048576) (hb : Byt bs) (hg : g < w.heap.size) (hc : ∀ i, i < n → w.cell? ⟨g, i, none⟩ = some (.int .u8 (bs[i]?.getD 0))) : Bs w (some ⟨g, 0, none⟩) n bs :=
 ⟨hl, hn, fun i => hb.get i, .inr ⟨g, 0, rfl, hg, fun i hi => by rw [Nat.zero_add]; exact hc i hi⟩⟩
theorem oneCell_map (bs : List Int) : ∀ u ∈ bs.map (Value.int .u8), u.oneCell' = true := by
 intro u hu;obtain ⟨x, _, rfl⟩ := List.mem_map.1 hu;rfl
def Tz (w : World) (B : Nat) (a : Option Addr) (len cap : Nat) (bs : List Int) : Prop :=
 Bs w a len bs ∧ ((a = none ∧ len = 0 ∧ cap = 0) ∨ ∃ g, a = some ⟨g, 0, none⟩ ∧ B ≤ g ∧ g < w.heap.size ∧ len ≤ cap ∧ ∀ j, j < cap → (w.cell? ⟨g, j, none⟩).isSome = true ∧ w.frozen? ⟨g, j, none⟩ = false)
theorem wp_app8r (s x : Operand) (tx : TypeId)
 (ho : o.op = .call { callee := .builtin .append, args := #[s, x], argTypes := #[23, tx] })
 (B n cap : Nat) (a0 : Option Addr) (us : List Int) (hs : a.eval s = .slice a0 n cap) (HT : Tz w B a0 n cap us)
 (xv : Value) (m : Nat) (bs : List Int) (hx : a.eval x = xv) (hml : bs.length = m) (h0 : a0 = none → 0 < m)
 (hrR : ∀ g, a0 = some ⟨g, 0, none⟩ → n + m ≤ cap → (Builtin.append_ #[23, tx] o.type #[.slice (some ⟨g, 0, none⟩) n cap, xv]).run Tryz.prog w = .ok (.slice (some ⟨g, 0, none⟩) (n + m) cap) (w.setCells g n (bs.map (Value.int .u8))))
 (hrG : cap < n + m → (Builtin.append_ #[23, tx] o.type #[.slice a0 n cap, xv]).run Tryz.prog w = .ok (.slice (some ⟨w.heap.size, 0, none⟩) (n + m) (grownCap w (n + m) cap 5)) (w.drew.alloc (.cells ((us.map (Value.int .u8) ++ bs.map (Value.int .u8)).toArray ++ Builtin.zeroCells (Value.int IntKind.u8 0).cells (grownCap w (n + m) cap 5 - (n + m))) 5)))
 (HY : Byt (us ++ bs)) (hle : n + m ≤ 1048576) (hB : B ≤ w.heap.size)
 (h : ∀ g' cap' w', Hd (Tz w' B (some ⟨g', 0, none⟩) (n + m) cap' (us ++ bs)) → Hd (Below B w w') → K (a.put o.dst (.slice (some ⟨g', 0, none⟩) (n + m) cap')) w') :
 Oper.wp Tryz.prog o a w K Q := by
 obtain ⟨hBs, hh⟩ := HT;have hul := hBs.1;by_cases hroom : n + m ≤ cap
 · rcases hh with ⟨e0, e1, e2⟩ | ⟨g, hg', hBg, hgl, hnc, hcells⟩
   · have := h0 e0
     omega
   subst hg';have hr := hrR g rfl hroom;have hold : ∀ i, i < n → w.cell? ⟨g, i, none⟩ = some (.int .u8 (us[i]?.getD 0)) := fun i hi => by
    rcases hBs.2.2.2 with h0 | ⟨b, off, e, _, hc⟩
    · omega
    cases e;have := hc i hi;rwa [Nat.zero_add] at this
   have hsome : ∀ j, j < (bs.map (Value.int .u8)).length → (w.cell? ⟨g, n + j, none⟩).isSome = true := fun j hj => by
    rw [List.length_map] at hj;exact (hcells (n + j) (by omega)).1
   have hin := World.cell?_setCells_in g (bs.map (Value.int .u8)) n w hsome;have hout := World.cell?_setCells_out g (bs.map (Value.int .u8)) n w;have hfz := World.frozen?_setCells g (bs.map (Value.int .u8)) n w;have hbl := below_setCells (B := B) hBg (bs.map (Value.int .u8)) n w (Below.refl B w);have hcell : ∀ i, i < n + m → (w.setCells g n (bs.map (Value.int .u8))).cell? ⟨g, i, none⟩ = some (.int .u8 ((us ++ bs)[i]?.getD 0)) := fun i hi => by
    by_cases hin' : i < n
    · rw [hout ⟨g, i, none⟩ (fun _ _ => .inl hin'), hold i hin', List.getElem?_append_left (by omega)]
    obtain ⟨j, rfl⟩ : ∃ j, i = n + j := ⟨i - n, by omega⟩
    rw [hin j (by rw [List.length_map]; omega), List.getElem?_append_right (by omega), hul, Nat.add_sub_cancel_left, List.getElem?_eq_getElem (by omega)];simp
   unfold Oper.wp execOp;simp only [ho, resolve, invoke, builtin, Sem.run_bind, Sem.run_pure, Result.andThen_ok, List.map_toArray, List.map_cons, List.map_nil, hs, hx, hr];refine (h g cap _ ⟨bs_of_cells (by rw [List.length_append]; omega) (by omega) HY (Nat.lt_of_lt_of_le hgl hbl.size) hcell, .inr ⟨g, rfl, hBg, Nat.lt_of_lt_of_le hgl hbl.size, hroom, fun j hj => ⟨?_, (hfz _).trans (hcells j hj).2⟩⟩⟩ hbl);by_cases hjm : j < n + m
   · rw [hcell j hjm]
     rfl
   rw [hout ⟨g, j, none⟩ (fun _ _ => .inr (by rw [List.length_map]; show n + bs.length ≤ j; omega))];exact (hcells j hj).1
 have hr := hrG (by omega);have hge := grownCap_ge w (n + m) cap 5;unfold Oper.wp execOp;simp only [ho, resolve, invoke, builtin, Sem.run_bind, Sem.run_pure, Result.andThen_ok, List.map_toArray, List.map_cons, List.map_nil, hs, hx, hr];obtain ⟨C, hC⟩ : ∃ C, grownCap w (n + m) cap 5 = C := ⟨_, rfl⟩;rw [hC] at hge ⊢;have hat : ∀ j, (w.drew.alloc (.cells ((us.map (Value.int .u8) ++ bs.map (Value.int .u8)).toArray ++ Builtin.zeroCells (Value.int IntKind.u8 0).cells (C - (n + m))) 5)).cell? ⟨w.heap.size, j, none⟩ = ((us.map (Value.int .u8) ++ bs.map (Value.int .u8)).toArray ++ Builtin.zeroCells (Value.int IntKind.u8 0).cells (C - (n + m)))[j]? := fun j => by
  simp [go_sem]
 have hbl : Below B w (w.drew.alloc (.cells ((us.map (Value.int .u8) ++ bs.map (Value.int .u8)).toArray ++ Builtin.zeroCells (Value.int IntKind.u8 0).cells (C - (n + m))) 5)) := (Below.drew (Below.refl B w)).alloc hB _;have hcell : ∀ i, i < n + m → (w.drew.alloc (.cells ((us.map (Value.int .u8) ++ bs.map (Value.int .u8)).toArray ++ Builtin.zeroCells (Value.int IntKind.u8 0).cells (C - (n + m))) 5)).cell? ⟨w.heap.size, i, none⟩ = some (.int .u8 ((us ++ bs)[i]?.getD 0)) := fun i hi => by
  rw [hat, Array.getElem?_append_left (by simp; omega), ← List.map_append, List.getElem?_toArray, List.getElem?_map, List.getElem?_eq_getElem (by rw [List.length_append]; omega)];simp
 refine (h w.heap.size C _ ⟨bs_of_cells (by rw [List.length_append]; omega) (by omega) HY (by simp) hcell, .inr ⟨w.heap.size, rfl, hB, by simp, hge, fun j hj => ⟨?_, by simp [go_sem]⟩⟩⟩ hbl);rw [hat, Array.getElem?_eq_getElem (by simp [Builtin.zeroCells, Value.cells]; omega)];rfl
theorem tz_first {a0 : Option Addr} {cap : Nat} {us : List Int} (h : Tz w B a0 n cap us) (z : Nat) (hz : z = 1) : (Builtin.firstCells z n (.slice a0 n cap)).run Tryz.prog w.drew = .ok (us.map (Value.int .u8)).toArray w.drew := by
 subst hz;rcases h.2 with ⟨rfl, rfl, rfl⟩ | ⟨g, rfl, _⟩
 · have : us = [] := List.eq_nil_of_length_eq_zero h.1.1
   subst this;exact run_firstCells_none w.drew 1 0 0 0
 have hul := h.1.1;refine run_firstCells_some w.drew 1 n ⟨g, 0, none⟩ n cap _ (by rw [List.length_map]; omega) fun j v hv => ?_;have hj : j < n := by have := (List.getElem?_eq_some_iff.1 hv).1; simpa [hul] using this
 have e : w.drew.cell? ((⟨g, 0, none⟩ : Addr).add j) = w.cell? ⟨g, j, none⟩ := by
  rw [Addr.add_lit, Nat.zero_add];rfl
 rw [e];rcases h.1.2.2.2 with h0 | ⟨b, off, e, _, hc⟩
 · omega
 cases e;have hx := hc j hj;rw [Nat.zero_add] at hx;rw [hx];rw [List.getElem?_map, List.getElem?_eq_getElem (by omega)] at hv;rw [List.getElem?_eq_getElem (by omega)];simpa using hv
theorem wp_app8z (s x : Operand) (tx : TypeId)
 (ho : o.op = .call { callee := .builtin .append, args := #[s, x], argTypes := #[23, tx] })
 (B n cap : Nat) (a0 : Option Addr) (us : List Int) (hs : a.eval s = .slice a0 n cap) (HT : Hd (Tz w B a0 n cap us))
 (xv : Value) (m : Nat) (bs : List Int) (hx : a.eval x = xv) (h0 : a0 = none → 0 < m) (HS : Hd (Src Tryz.prog 1 tx xv m (bs.map (Value.int .u8)) w)) (HY : Hd (Byt (us ++ bs))) (N : Nat) (hN : n + m = N) (zs : List Int) (hz : us ++ bs = zs) (hle : N ≤ 1048576) (hB : B ≤ w.heap.size)
 (h : ∀ g' cap' w', Hd (Tz w' B (some ⟨g', 0, none⟩) N cap' zs) → Hd (Below B w w') → K (a.put o.dst (.slice (some ⟨g', 0, none⟩) N cap')) w') :
 Oper.wp Tryz.prog o a w K Q := by
 obtain ⟨i0, hi0, hzz⟩ := Option.map_eq_some_iff.1 Tryz.info5;simp only [Prod.mk.injEq] at hzz;obtain ⟨hi2, hi1, hi3⟩ := hzz;subst hN hz;have hsrc : Src Tryz.prog i0.size tx xv m (bs.map (Value.int .u8)) w := by rw [hi1]; exact HS.o
 have hml : bs.length = m := by have := HS.o.newsLen; simpa using this
 refine wp_app8r s x tx ho B n cap a0 us hs HT.o xv m bs hx hml h0 (fun g hg hroom => ?_) (fun hno => ?_) HY.o hle hB h
 · subst hg
   rcases HT.o.2 with ⟨e0, _⟩ | ⟨g', hg', hBg, hgl, hnc, hcells⟩
   · cases e0
   cases hg';have hr := run_append_room_src (P := Tryz.prog) w 23 tx o.type 5 i0 Tryz.underlying23 hi0 g 0 n cap xv m (bs.map (Value.int .u8)) hsrc hroom (fun j hj => by
    rw [List.length_map] at hj
    rw [hi1, Nat.zero_add, Nat.mul_one]
    exact (hcells (n + j) (by omega)).1) (fun j hj => by
    rw [List.length_map] at hj
    rw [hi1, Nat.zero_add, Nat.mul_one]
    exact (hcells (n + j) (by omega)).2)
   rwa [hi1, Nat.zero_add, Nat.mul_one] at hr
 exact run_append_grow_src (P := Tryz.prog) w 23 tx o.type 5 i0 (.int .u8 0) Tryz.underlying23 hi0 hi2 a0 n cap (us.map (Value.int .u8)) (tz_first HT.o _ hi1) xv m (bs.map (Value.int .u8)) hsrc (by omega) (by omega) (growslice_fits (by omega) (by rw [hi3]; omega))
theorem step_app8z (hgd : o.guard = none) (s x : Operand) (tx : TypeId)
 (ho : o.op = .call { callee := .builtin .append, args := #[s, x], argTypes := #[23, tx] })
 (B n cap : Nat) (a0 : Option Addr) (us : List Int) (hs : a.eval s = .slice a0 n cap) (HT : Hd (Tz w B a0 n cap us))
 (xv : Value) (m : Nat) (bs : List Int) (hx : a.eval x = xv) (h0 : a0 = none → 0 < m) (HS : Hd (Src Tryz.prog 1 tx xv m (bs.map (Value.int .u8)) w)) (HY : Hd (Byt (us ++ bs))) (N : Nat) (hN : n + m = N) (zs : List Int) (hz : us ++ bs = zs) (hle : N ≤ 1048576) (hB : B ≤ w.heap.size)
 (h : ∀ g' cap' w', Hd (Tz w' B (some ⟨g', 0, none⟩) N cap' zs) → Hd (Below B w w') → K (a.put o.dst (.slice (some ⟨g', 0, none⟩) N cap')) w') :
 if Region.wanted o (yielded ops a.tmps) = true then Oper.wp Tryz.prog o a w K Q else E := by
 have hw : Region.wanted o (yielded ops a.tmps) = true := by simp [Region.wanted, hgd]
 rw [if_pos hw];exact wp_app8z s x tx ho B n cap a0 us hs HT xv m bs hx h0 HS HY N hN zs hz hle hB h
theorem list_app8z (hgd : o.guard = none) (s x : Operand) (tx : TypeId)
 (ho : o.op = .call { callee := .builtin .append, args := #[s, x], argTypes := #[23, tx] })
 (B n cap : Nat) (a0 : Option Addr) (us : List Int) (hs : a.eval s = .slice a0 n cap) (HT : Hd (Tz w B a0 n cap us))
 (xv : Value) (m : Nat) (bs : List Int) (hx : a.eval x = xv) (h0 : a0 = none → 0 < m) (HS : Hd (Src Tryz.prog 1 tx xv m (bs.map (Value.int .u8)) w)) (HY : Hd (Byt (us ++ bs))) (N : Nat) (hN : n + m = N) (zs : List Int) (hz : us ++ bs = zs) (hle : N ≤ 1048576) (hB : B ≤ w.heap.size)
 (h : ∀ g' cap' w', Hd (Tz w' B (some ⟨g', 0, none⟩) N cap' zs) → Hd (Below B w w') → wpList Tryz.prog ops Q rest (a.put o.dst (.slice (some ⟨g', 0, none⟩) N cap')) w') :
 wpList Tryz.prog ops Q (o :: rest) a w :=
 wpList_plain hgd fun _ hK => wp_app8z s x tx ho B n cap a0 us hs HT xv m bs hx h0 HS HY N hN zs hz hle hB fun g' cap' w' h1 h2 => hK _ _ (h g' cap' w' h1 h2)
theorem src_bs {a : Option Addr} {c : Nat} (h : Bs w a n bs) : Src Tryz.prog 1 23 (.slice a n c) n (bs.map (Value.int .u8)) w := by
 cases a with
 | some p =>
  refine Src.ofSlice w Tryz.underlying23 p n c _ (by rw [List.length_map, h.1, Nat.mul_one]) (fun j u hu => ?_) (oneCell_map bs);have hj : j < n := by have := (List.getElem?_eq_some_iff.1 hu).1; simpa [h.1] using this
  rcases h.2.2.2 with h0 | ⟨b, off, e, _, hc⟩
  · omega
  cases e;have e2 : (⟨b, off, none⟩ : Addr).add j = ⟨b, off + j, none⟩ := Addr.add_lit _ _ _;rw [e2, hc j hj];rw [List.getElem?_map] at hu;have hjl : j < bs.length := by rw [h.1]; exact hj
  rw [List.getElem?_eq_getElem hjl] at hu ⊢;simpa using hu
 | none =>
  have h0 : n = 0 := by
   rcases h.2.2.2 with h0 | ⟨b, off, e, _, hc⟩
   · exact h0
   cases e
  subst h0;have hb := List.eq_nil_of_length_eq_zero h.1;subst hb;exact Src.ofNil w Tryz.underlying23 c
theorem Tz.new0v (w : World) : Tz (w.alloc (.cells #[] 5)) w.heap.size (some ⟨w.heap.size, 0, none⟩) 0 0 [] :=
 ⟨⟨rfl, by omega, by simp, .inl rfl⟩, .inr ⟨_, rfl, nR, by simp, nR, fun j hj => by omega⟩⟩
structure QS (w0 w : World) (B g : Nat) (v0 v : Value) (L : List SL) (cs : List Value) (W : World) : Prop where
 vq : VQ w0 W B g v L
 kq : KQ g v0 w v W
 bx : Box W w.heap.size cs
 ne : v.ownBlock ≠ some w.heap.size
 gw : g < w.heap.size
theorem QS.new {L : List SL} (h : VQ w0 w B g v L) (cs : Array Value) (t : TypeId) : QS w0 w B g v v L cs.toList (w.alloc (.cells cs t)) :=
 ⟨h.below (bl_a _), KQ.of_below (bl_a _), Box.new w cs t (0, 0), fun e => by have := (h.vl.lo _ e).2; omega, h.lt⟩
theorem QS.below {L : List SL} (h : QS w0 w B g v0 v L cs W) (hb : Bl W W') : QS w0 w B g v0 v L cs W' :=
 ⟨h.vq.below hb, h.kq.trans (KQ.of_below hb), h.bx.below hb, h.ne, h.gw⟩
theorem QS.step {L L' : List SL} (h : QS w0 w B g v0 v L cs W) (hV : VQ w0 W' B g v' L') (hK : KQ g v W v' W') : QS w0 w B g v0 v' L' cs W' :=
 ⟨hV, h.kq.trans hK, hK.box h.bx (by have := h.gw; omega) h.ne, fun e => by
  rcases hK.blk _ e with e | e
  · exact h.ne e
  have := h.bx.1
  omega, h.gw⟩
theorem addPat_any (v : Value) (L : List SL) (x : PB) (B g : Nat) (w0 w : World) (h : VQ w0 w B g v L) (hx : x.lies 0 w0) (hn : L.length + 3 ≤ 1000000) :
 Calls Tryz.prog 118 #[.pointer (some ⟨g, 0, none⟩), .agg x.ar] w (AddQ w0 B g v (ptV x (L.map SL.b)) w) := by
 have HQ0 := iH (QS.new h x.ar 39);have HX := iH hx;have HL1 : Hd (L.length ≤ 1000000) := (show L.length ≤ _ by omega);clear h hx;go_in;go_wp2_with fail
 refine (add_any v L x.s.v B g w0 _ HQ0.o.vq HX.o.1.1 HL1.o).mono ?_;rintro e z1 ⟨v1, L1, rfl, hV1, hR1, hK1⟩;have HQ1 := iH (HQ0.o.step hV1 hK1);have HR1 := iH hR1;have HL2 : Hd (L1.length ≤ 1000000) := (show L1.length ≤ _ by have h1 := congrArg List.length hR1; have h2 := addV_len (L.map SL.b) x.s.v.b; rw [List.length_map] at h1 h2; omega);have HL3 : Hd (L1.length ≤ L.length + 1) := (show L1.length ≤ _ by have h1 := congrArg List.length hR1; have h2 := addV_len (L.map SL.b) x.s.v.b; rw [List.length_map] at h1 h2; omega);have y1 := HQ1.o.bx.2 5 _ rfl;clear hV1 hR1 hK1 HQ0;go_wp2_with fail
 refine (add_any v1 L1 x.p.v B g w0 _ HQ1.o.vq HX.o.2.1.1 HL2.o).mono ?_;rintro e z2 ⟨v2, L2, rfl, hV2, hR2, hK2⟩;have HQ2 := iH (HQ1.o.step hV2 hK2);have HR2 : Hd (L2.map SL.b = addV (addV (L.map SL.b) x.s.v.b) x.p.v.b) := (show _ = _ by rw [hR2, HR1.o]);have HL4 : Hd (L2.length ≤ 1000000) := (show L2.length ≤ _ by have h1 := congrArg List.length hR2; have h2 := addV_len (L1.map SL.b) x.p.v.b; have h3 := HL3.o; rw [List.length_map] at h1 h2; omega);have y2 := HQ2.o.bx.2 10 _ rfl;clear hV2 hR2 hK2 HQ1 y1;go_wp2_with fail
 refine (add_any v2 L2 x.o.v B g w0 _ HQ2.o.vq HX.o.2.2.1 HL4.o).mono ?_;rintro e z3 ⟨v3, L3, rfl, hV3, hR3, hK3⟩;have HQ3 := iH (HQ2.o.step hV3 hK3);have HR3 : Hd (L3.map SL.b = ptV x (L.map SL.b)) := (show _ = _ by rw [hR3, HR2.o]; rfl);clear hV3 hR3 hK3 HQ2 y2;go_wp2;go_end0;exact ⟨v3, L3, rfl, HQ3.o.vq, HR3.o, HQ3.o.kq⟩
theorem addExpr_any (e : ET) : ∀ (v : Value) (L : List SL) (B g : Nat) (w0 w : World), e.lies 0 w0 → VQ w0 w B g v L → L.length + esz e ≤ 1000000 →
 Calls Tryz.prog 119 #[.pointer (some ⟨g, 0, none⟩), .agg e.d.ar] w (AddQ w0 B g v (eV e (L.map SL.b)) w) := by
 induction e with
 | nil => exact fun _ _ _ _ _ _ h => False.elim h
 | mk d kid ih =>
  intro v L B g w0 w hl h hn;show Calls Tryz.prog 119 #[.pointer (some ⟨g, 0, none⟩), .agg d.ar] w (AddQ w0 B g v (eV (.mk d kid) (L.map SL.b)) w);obtain ⟨hv, _, _, hn20, hR, hk⟩ := hl;have hsz : esz (.mk d kid) = 1 + sumN d.n (fun i => esz (kid i)) := rfl;have HIH := iH (fun i (hi : i < d.n) (v' : Value) (L' : List SL) (W : World) (hV : VQ w0 W B g v' L') (hL : L'.length + esz (kid i) ≤ 1000000) => ih i v' L' B g w0 W (hk i hi) hV hL);have HQ0 := iH (QS.new h d.ar 42);have HVX := iH hv;have HKR := iH hR;have HL1 : Hd (L.length ≤ 1000000) := (show L.length ≤ _ by omega);have HLK : Hd (∀ k, k < d.n → (foldN k (fun i acc => eV (kid i) acc) (addV (L.map SL.b) d.v.b)).length + esz (kid k) ≤ 1000000) := fun k hk => by
   have h1 := foldN_len (f := (fun i acc => eV (kid i) acc)) (c := fun i => esz (kid i)) (n := k) (fun i l _ => eV_len (kid i) l) (addV (L.map SL.b) d.v.b);have h2 := addV_len (L.map SL.b) d.v.b;rw [List.length_map] at h2;have h3 := sumN_mono (f := fun i => esz (kid i)) (show k + 1 ≤ d.n by omega);have h4 : sumN (k + 1) (fun i => esz (kid i)) = sumN k (fun i => esz (kid i)) + esz (kid k) := rfl;omega
  clear h hv hR hk ih hn hsz;go_in;go_wp2_with fail
  refine (add_any v L d.v B g w0 _ HQ0.o.vq HVX.o HL1.o).mono ?_;rintro e z1 ⟨v1, L1, rfl, hV1, hR1, hK1⟩;have HQ1 := iH (HQ0.o.step hV1 hK1);have HR1 := iH hR1;have y7 := HQ1.o.bx.2 7 _ rfl;clear hV1 hR1 hK1 HQ0;obtain ⟨n, hnn⟩ : ∃ n, n = d.n := ⟨_, rfl⟩;have HNN := iH hnn;rw [← hnn] at y7;by_cases hn1 : n = 0
  · have HR0 : Hd (L1.map SL.b = eV (.mk d kid) (L.map SL.b)) := (show _ = foldN d.n _ _ by rw [← hnn, hn1, HR1.o]; rfl)
    rw [hn1] at y7;clear hn1 hnn;go_wp2_with fail
    clear y7;go_loopw [13] (fun i wr => i = .int .i64 0 ∧ Hd (QS w0 w B g v v1 L1 [.int .i64 d.k, .int .i64 d.op, .slice d.v.a d.v.len d.v.cap, .int .i64 d.t.t.k, .slice d.t.t.a d.t.t.len d.t.t.cap, .int .i64 d.t.t.n, .int .i64 d.t.t.s, .slice d.ka d.n d.kc] wr)) (fun _ _ => 0)
    case atStart => exact ⟨rfl, HQ1⟩
    obtain ⟨rfl, HQr⟩ := hrel;go_wp2;go_end0;exact ⟨v1, L1, rfl, HQr.o.vq, HR0.o, HQr.o.kq⟩
  obtain ⟨b, off, eK, _, hbk, hck⟩ := HKR.o.resolve_left (by omega);have HCK := iH hck;have hbk' : b < w0.heap.size := hbk;have hn2 : n ≤ 1048576 := by omega
  rw [eK] at y7;clear eK hck hnn hbk HKR;go_wp2_with fail
  clear y7;go_loopw [13] (fun i wr => ∃ (k : Nat) (v' : Value) (L' : List SL), k ≤ n ∧ i = .int .i64 k ∧ Hd (L'.map SL.b = foldN k (fun i acc => eV (kid i) acc) (addV (L.map SL.b) d.v.b)) ∧ Hd (QS w0 w B g v v' L' [.int .i64 d.k, .int .i64 d.op, .slice d.v.a d.v.len d.v.cap, .int .i64 d.t.t.k, .slice d.t.t.a d.t.t.len d.t.t.cap, .int .i64 d.t.t.n, .int .i64 d.t.t.s, .slice d.ka d.n d.kc] wr)) (fun i _ => n - (intOf i).toNat)
  case atStart => exact ⟨0, v1, L1, nZ, rfl, HR1, HQ1⟩
  clear HQ1;obtain ⟨k, v', L', hk, rfl, HRr, HQr⟩ := hrel;by_cases hlk : k < n;rotate_left
  · obtain rfl : k = n := by omega
    have hlkz : ¬ (k : Int) < (k : Int) := by omega
    have HR2 : Hd (L'.map SL.b = eV (.mk d kid) (L.map SL.b)) := (show _ = foldN d.n _ _ by rw [← HNN.o]; exact HRr.o);go_wp2;go_end0;exact ⟨v', L', rfl, HQr.o.vq, HR2.o, HQr.o.kq⟩
  have hlkz : (k : Int) < (n : Int) := by omega
  have hcx : wr.rangeAt b (off + k * 8) (kid k).d.cl := fun c u hu => (HQr.o.vq.bl.cell (p := ⟨b, off + k * 8 + c, none⟩) hbk').trans (HCK.o k (by rw [← HNN.o]; exact hlk) c u hu);have HLl : Hd (L'.length + esz (kid k) ≤ 1000000) := (show _ ≤ 1000000 by have h1 := HLK.o k (by rw [← HNN.o]; exact hlk); have h2 := congrArg List.length HRr.o; rw [List.length_map] at h2; omega);go_wp2_with (with_reducible refine wpl_at ?_; refine wpList_load_mid rfl 42 _ rfl _ _ rfl (kid k).d.cl _ hcx Tryz.underlying42 rfl (by kernel_rfl) ?_; try simp only [Act.put, sA, zA, cA])
  refine (HIH.o k (by rw [← HNN.o]; exact hlk) v' L' _ (HQr.o.vq.below (bl_a _)) HLl.o).mono ?_;rintro e z5 ⟨v5, L5, rfl, hV5, hR5, hK5⟩;have HQ5 := iH ((HQr.o.below (bl_a _)).step hV5 hK5);have HR5 : Hd (L5.map SL.b = foldN (k + 1) (fun i acc => eV (kid i) acc) (addV (L.map SL.b) d.v.b)) := (show _ = eV (kid k) _ by rw [hR5, HRr.o]);clear hV5 hR5 hK5 hcx HQr;go_wp2;go_roundw
  case rel => exact ⟨k + 1, v5, L5, by omega, by go_num, HR5, HQ5⟩
  case measure => simp [intOf]; omega
end Go.Proofs.YtoloadogihbdeaaGreat
