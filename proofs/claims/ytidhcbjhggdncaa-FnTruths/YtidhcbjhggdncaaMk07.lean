/- Texts put together: TreO TreP TreP0 TreP1 TreP2 TreP3 TreP4 TreP5 TreP6 TreP7 TreQ -/
import Derived.Test.YtidhcbjhggdncaaMk06
/- TreO -/
namespace Go.Proofs.Ytidhcbjhggdncaa
open Go.RowKit Go.Deep
set_option maxRecDepth 100000

theorem spares_any (g : Nat) (L n : Int) (w : World) (hc : Ctr w g L) (h0 : -100000 ≤ L) (h1 : L ≤ 100000) (h2 : 0 ≤ n) (h3 : n ≤ 1048576) :
    Calls Try.prog 63 #[.pointer (some ⟨g, 0, none⟩), .int .i64 n] w fun e w' => e = .returned (.bool (decide (0 ≤ L - n))) ∧ Ctr w' g (L - n) ∧ Past g w w' := by
  have HC : Hid (Ctr (w.setCell ⟨g, 0, none⟩ (.int .i64 (L - n))) g (L - n) ∧ Past g w (w.setCell ⟨g, 0, none⟩ (.int .i64 (L - n)))) := ⟨hc.set _, (Past.refl g w).set 0 _⟩
  have c0 := hc.cell
  have f0 := hc.fr
  have c1 : (w.setCell ⟨g, 0, none⟩ (.int .i64 (L - n))).cell? ⟨g, 0, none⟩ = some (.int .i64 (L - n)) := (hc.set _).cell
  have hwr : IntKind.i64.wrap (L - n) = L - n := by rw [IntKind.wrap_i64]; omega
  clear hc
  go_enter Try.func63, Try.ntmps63
  go_wp2_with fail
  go_ret
  exact ⟨by simp, HC.out⟩
theorem isTooDeep_any (p q : Int) (w : World) : Calls Try.prog 64 #[.agg #[.int .i64 p, .int .i64 q]] w (Tells (q < p) w) := by
  go_enter Try.func64, Try.ntmps64
  go_wp2_with fail
  go_ret
  exact Tells.of (by simp) (bl_a _)
/-- What admits answers. -/
def AdAns (P : Prop) (g : Nat) (L : Int) (w : World) (e : Ending) (w' : World) : Prop := ∃ q : Bool, e = .returned (.bool q) ∧ (q = true ↔ P) ∧ Ctr w' g L ∧ Past g w w'
theorem admits_any (g : Nat) (L p q : Int) (w : World) (hc : Ctr w g L) (h0 : 0 ≤ L) (h1 : L ≤ 100000) :
    Calls Try.prog 45 #[.pointer (some ⟨g, 0, none⟩), .agg #[.int .i64 p, .int .i64 q]] w (AdAns (1 ≤ L ∧ p ≤ q) g (L - 1) w) := by
  have SP := fun o => spares_any g L 1 (w.alloc o) (hc.below (bl_a o)) (by omega) h1 (by omega) (by omega)
  have hg := hc.lt
  clear hc
  go_enter Try.func45, Try.ntmps45
  go_wp2_with fail
  refine (SP _).mono ?_
  rintro e w1 ⟨rfl, hc1, hp1⟩
  have HC1 : Hid (Ctr w1 g (L - 1)) := hc1
  have HP1 : Hid (Past g w w1) := (Past.of_below (bl_a _)).trans hp1
  have x0 : w1.cell? ⟨w.heap.size, 0, none⟩ = some (.int .i64 p) := (hp1.cell (p := ⟨w.heap.size, 0, none⟩) (by simp) (by show w.heap.size ≠ g; omega)).trans (by simp [go_sem])
  have x1 : w1.cell? ⟨w.heap.size, 1, none⟩ = some (.int .i64 q) := (hp1.cell (p := ⟨w.heap.size, 1, none⟩) (by simp) (by show w.heap.size ≠ g; omega)).trans (by simp [go_sem])
  clear SP hc1 hp1
  by_cases hL : 0 ≤ L - 1
  · have hLd : decide (0 ≤ L - 1) = true := by simp; omega
    have TD := isTooDeep_any p q w1
    rw [hLd]
    go_wp2_with fail
    refine TD.mono ?_
    rintro e w2 ⟨q2, rfl, hq2, hb2⟩
    have HC2 : Hid (Ctr w2 g (L - 1)) := HC1.out.below hb2
    have HP2 : Hid (Past g w w2) := HP1.out.trans (Past.of_below hb2)
    have HE : Hid ((!q2) = true ↔ (1 ≤ L ∧ p ≤ q)) := by
      show (_ ↔ _)
      cases q2 with
      | true => exact ⟨fun h => (by cases h), fun h => by have := hq2.1 rfl; omega⟩
      | false => exact ⟨fun _ => ⟨by omega, by
          apply Classical.byContradiction
          intro hn
          have := hq2.2 (by omega)
          cases this⟩, fun _ => rfl⟩
    clear TD hq2 hb2 x0 x1
    go_wp2_with fail
    go_ret
    exact ⟨_, rfl, HE.out, HC2.out, HP2.out⟩
  · have hLd : decide (0 ≤ L - 1) = false := by simp; omega
    rw [hLd]
    go_wp2_with fail
    go_ret
    exact ⟨false, rfl, ⟨fun h => (by cases h), fun h => absurd h.1 (by omega)⟩, HC1.out, HP1.out⟩
theorem placeBelow_any (p q : Int) (w : World) (h0 : 0 ≤ p) (h1 : p ≤ 100000) : Calls Try.prog 47 #[.agg #[.int .i64 p, .int .i64 q]] w fun e w' => e = .returned (.agg #[.int .i64 (p + 1), .int .i64 q]) ∧ Below w.heap.size w w' := by
  go_enter Try.func47, Try.ntmps47
  go_wp2_with fail
  refine bodyPost_ret (v := .agg #[.int .i64 (p + 1), .int .i64 q]) (by simp [results, Try.results47, go_sem]) rfl ?_
  exact ⟨rfl, bl_alloc (bl_a _) _⟩
theorem isZeroT_any (x : TB) (w : World) (h : BsF 0 w x.sl) :
    Calls Try.prog 56 #[.agg #[.int .i64 x.t.k, .slice x.t.a x.t.len x.t.cap, .int .i64 x.t.n, .int .i64 x.t.s]] w (Tells (zeroT x.td) w) := by
  have HL : Hid (x.b = [] ↔ x.t.len = 0) := nil_len h.1.1
  clear h
  by_cases h0 : x.t.k = 0
  rotate_left
  · go_enter Try.func56, Try.ntmps56
    go_wp2
    go_ret
    exact Tells.no (P := zeroT x.td) (fun hp => h0 hp.1) (bl_a _)
  by_cases h1 : x.t.len = 0
  rotate_left
  · go_enter Try.func56, Try.ntmps56
    go_wp2
    go_ret
    exact Tells.no (P := zeroT x.td) (fun hp => h1 (HL.out.1 hp.2.1)) (bl_a _)
  by_cases h2 : x.t.n = 0
  rotate_left
  · go_enter Try.func56, Try.ntmps56
    go_wp2
    go_ret
    exact Tells.no (P := zeroT x.td) (fun hp => h2 hp.2.2.1) (bl_a _)
  by_cases h3 : x.t.s = 0
  rotate_left
  · have h3' : (x.t.s == 0) = false := by simp [h3]
    go_enter Try.func56, Try.ntmps56
    go_wp2
    go_ret
    exact Tells.no (P := zeroT x.td) (fun hp => h3 hp.2.2.2) (bl_a _)
  · have HP : Hid (zeroT x.td) := ⟨h0, HL.out.2 h1, h2, h3⟩
    go_enter Try.func56, Try.ntmps56
    go_wp2
    go_ret
    exact Tells.yes HP.out (bl_a _)
theorem isBare_any (d : EN) (w : World) (hv : BsF 0 w d.v) (ht : BsF 0 w d.t.sl) : Calls Try.prog 66 #[.agg #[.int .i64 d.k, .int .i64 d.op, .slice d.v.a d.v.len d.v.cap, .int .i64 d.t.t.k, .slice d.t.t.a d.t.t.len d.t.t.cap, .int .i64 d.t.t.n, .int .i64 d.t.t.s, .slice d.ka d.n d.kc]] w (Tells (d.op = 0 ∧ d.v.b = [] ∧ zeroT d.t.td) w) := by
  have HL : Hid (d.v.b = [] ↔ d.v.len = 0) := nil_len hv.1.1
  have HZ : Hid (∀ W, Below w.heap.size w W → Calls Try.prog 56 #[.agg #[.int .i64 d.t.t.k, .slice d.t.t.a d.t.t.len d.t.t.cap, .int .i64 d.t.t.n, .int .i64 d.t.t.s]] W (Tells (zeroT d.t.td) W)) := fun W hb => isZeroT_any d.t W (ht.upper (Upper.of_below hb))
  obtain ⟨P, hP⟩ : ∃ P, P = (d.op = 0 ∧ d.v.b = [] ∧ zeroT d.t.td) := ⟨_, rfl⟩
  have HP : Hid (P ↔ (d.op = 0 ∧ d.v.b = [] ∧ zeroT d.t.td)) := (show (P ↔ _) by rw [hP])
  rw [← hP]
  clear hv ht hP
  by_cases h1 : d.op = 0
  rotate_left
  · go_enter Try.func66, Try.ntmps66
    go_wp2
    go_ret
    exact Tells.no (fun hp => h1 (HP.out.1 hp).1) (bl_a _)
  by_cases h2 : d.v.len = 0
  rotate_left
  · go_enter Try.func66, Try.ntmps66
    go_wp2
    go_ret
    exact Tells.no (fun hp => h2 (HL.out.1 (HP.out.1 hp).2.1)) (bl_a _)
  have H3 : Hid (d.op = 0 ∧ d.v.b = []) := ⟨h1, HL.out.2 h2⟩
  have Z := HZ.out
  go_enter Try.func66, Try.ntmps66
  go_wp2_with fail
  refine (Z _ (bl_a _)).mono ?_
  rintro e w1 ⟨q1, rfl, hq1, hb1⟩
  have HQ : Hid (q1 = true ↔ P) := (show (q1 = true ↔ P) from hq1.trans ⟨fun h => HP.out.2 ⟨H3.out.1, H3.out.2, h⟩, fun h => (HP.out.1 h).2.2⟩)
  have HB : Hid (Below w.heap.size w w1) := bl_trans (bl_a _) hb1
  clear Z hq1 hb1
  go_wp2_with fail
  go_ret
  exact Tells.of HQ.out HB.out
/-- How few and how many Kids. -/
def kLo (k : Int) : Int := if k = 2 then 2 else if k = 3 ∨ k = 7 then 1 else if k = 5 then 3 else if k = 6 then 1 else 0
def kHi (k : Int) : Int := if k = 2 then 2 else if k = 3 ∨ k = 7 then 1 else if k = 5 then 3 else if k = 6 then 4 else 0
theorem kidCount_any (k : Int) (w : World) : Calls Try.prog 65 #[.int .i64 k] w fun e w' => e = .returned (.tuple #[.int .i64 (kLo k), .int .i64 (kHi k)]) ∧ w' = w := by
  go_enter Try.func65, Try.ntmps65
  go_wp2
  all_goals go_ret2
  all_goals refine ⟨?_, rfl⟩
  all_goals (unfold kLo kHi; simp_all <;> omega)
end Go.Proofs.Ytidhcbjhggdncaa

/- TreP -/
namespace Go.Proofs.Ytidhcbjhggdncaa
open Go.RowKit Go.Deep
set_option maxRecDepth 100000

def BareN (d : EN) : Prop := d.op = 0 ∧ d.v.b = [] ∧ zeroT d.t.td

theorem BareN.mk {d : EN} (h1 : d.op = 0) (h2 : d.v.b = []) (h3 : zeroT d.t.td) : BareN d := And.intro h1 (And.intro h2 h3)

theorem wpl_at {P : Program} {ops : Array Oper} {rest : List Oper} {op : Oper} {a : Act} {w : World} {Q : Exit → Act → World → Prop} (h : wpList P ops Q (op :: rest) a w) : wpList P ops Q (op :: rest) a w := h

theorem zeroT0 : zeroT (TB.td ⟨⟨0, none, 0, 0, 0, 0⟩, []⟩) := by unfold zeroT; exact ⟨rfl, rfl, rfl, rfl⟩

end Go.Proofs.Ytidhcbjhggdncaa

/- TreP0 -/
namespace Go.Proofs.Ytidhcbjhggdncaa
open Go.RowKit Go.Deep
set_option maxRecDepth 100000


set_option maxHeartbeats 4000000 in
theorem hasOwnE_0 (d : EN) (w : World) (hkv : d.k = 0) (hv : BsF 0 w d.v) (ht : BsF 0 w d.t.sl) (_hf : d.t.t.fits) (hn : d.n ≤ 1048576) : Calls Try.prog 46 #[.agg #[.int .i64 d.k, .int .i64 d.op, .slice d.v.a d.v.len d.v.cap, .int .i64 d.t.t.k, .slice d.t.t.a d.t.t.len d.t.t.cap, .int .i64 d.t.t.n, .int .i64 d.t.t.s, .slice d.ka d.n d.kc]] w (Tells (nodeOk d) w) := by
  have KC := fun W => kidCount_any 0 W
  have e1 : kLo 0 = 0 := by decide
  have e2 : kHi 0 = 0 := by decide
  rw [e1, e2] at KC
  clear e1 e2
  have WI := fun W => within_any (d.n : Int) 0 0 W
  have HIB : Hid (∀ W, Below w.heap.size w W → Calls Try.prog 66 #[.agg #[.int .i64 0, .int .i64 d.op, .slice none 0 0, .int .i64 d.t.t.k, .slice d.t.t.a d.t.t.len d.t.t.cap, .int .i64 d.t.t.n, .int .i64 d.t.t.s, .slice d.ka d.n d.kc]] W (Tells (BareN ⟨0, d.op, ⟨none, 0, 0, []⟩, d.t, d.ka, d.kc, d.n⟩) W)) := fun W hb => isBare_any ⟨0, d.op, ⟨none, 0, 0, []⟩, d.t, d.ka, d.kc, d.n⟩ W (bs_nil W) (ht.upper (Upper.of_below hb))
  have HKO : Hid (kOk d.k d.n ↔ ((0 : Int) ≤ (d.n : Int) ∧ (d.n : Int) ≤ 0)) := (show (_ ↔ _) by rw [hkv]; unfold kOk; omega)
  have HKV : Hid (d.k = 0) := hkv
  have HIN : Hid (∀ W, Below w.heap.size w W → Calls Try.prog 24 #[.slice d.v.a d.v.len d.v.cap] W fun e w' => e = .returned (.bool (nameOk d.v.b)) ∧ w' = W) := fun W hb => isName_any d.v.a d.v.len d.v.cap d.v.b W (hv.upper (Upper.of_below hb)).1
  rw [hkv]
  clear hv ht hkv
  go_enter Try.func46, Try.ntmps46
  go_wp2_with fail
  refine (KC _).mono ?_
  rintro e w1 ⟨rfl, rfl⟩
  clear KC
  go_wp2_with fail
  refine (WI _).mono ?_
  rintro e w1 ⟨rfl, rfl⟩
  clear WI
  by_cases hkn : (0 : Int) ≤ (d.n : Int) ∧ (d.n : Int) ≤ 0
  rotate_left
  · have hw2 : (decide ((0 : Int) ≤ (d.n : Int)) && decide ((d.n : Int) ≤ 0)) = false := by simp; omega
    have HNO : Hid (¬ nodeOk d) := fun hh => hkn (HKO.out.1 hh.1)
    rw [hw2]
    clear hkn hw2
    go_wp2_with fail
    go_ret
    exact Tells.no HNO.out (bl_a _)
  have hw2 : (decide ((0 : Int) ≤ (d.n : Int)) && decide ((d.n : Int) ≤ 0)) = true := by simp; omega
  have HK : Hid (kOk d.k d.n) := HKO.out.2 hkn
  rw [hw2]
  clear hkn hw2 HKO
  have IN := HIN.out
  cases hnm : nameOk d.v.b with
  | false =>
    rw [hnm] at IN
    have HNO : Hid (¬ nodeOk d) := fun hh => by have h := hh.2.1 (by rw [HKV.out]; simp); rw [hnm] at h; cases h
    clear hnm
    go_wp2_with fail
    refine (IN _ (bl_alloc (bl_a _) _)).mono ?_
    rintro e w3 ⟨rfl, rfl⟩
    clear IN
    go_wp2_with fail
    go_ret
    exact Tells.no HNO.out (bl_alloc (bl_a _) _)
  | true =>
    rw [hnm] at IN
    have HNM : Hid (nameOk d.v.b = true) := hnm
    clear hnm
    go_wp2_with fail
    refine (IN _ (bl_alloc (bl_a _) _)).mono ?_
    rintro e w3 ⟨rfl, rfl⟩
    clear IN
    go_wp2_with fail
    refine (HIB.out _ (bl_alloc (bl_a _) _)).mono ?_
    rintro e w9 ⟨q9, rfl, hq9, hb9⟩
    have HE : Hid (q9 = true ↔ nodeOk d) := (show (q9 = true ↔ nodeOk d) from hq9.trans ⟨fun h => ⟨HK.out, fun _ => HNM.out, fun h2 => absurd (by rw [HKV.out]; simp) h2, fun h2 => absurd h2 (by rw [HKV.out]; decide), fun _ => h.2.2, ⟨by rw [h.1]; decide, by rw [h.1]; decide⟩, fun _ => h.1⟩, fun h => BareN.mk (h.2.2.2.2.2.2 (by rw [HKV.out]; decide)) rfl (h.2.2.2.2.1 (by rw [HKV.out]; decide))⟩)
    have HB9 : Hid (Below w.heap.size w w9) := bl_trans (bl_alloc (bl_a _) _) hb9
    clear hq9 hb9
    go_wp2_with fail
    go_ret
    exact Tells.of HE.out HB9.out

end Go.Proofs.Ytidhcbjhggdncaa

/- TreP1 -/
namespace Go.Proofs.Ytidhcbjhggdncaa
open Go.RowKit Go.Deep
set_option maxRecDepth 100000


set_option maxHeartbeats 4000000 in
theorem hasOwnE_1 (d : EN) (w : World) (hkv : d.k = 1) (hv : BsF 0 w d.v) (ht : BsF 0 w d.t.sl) (hf : d.t.t.fits) (hn : d.n ≤ 1048576) : Calls Try.prog 46 #[.agg #[.int .i64 d.k, .int .i64 d.op, .slice d.v.a d.v.len d.v.cap, .int .i64 d.t.t.k, .slice d.t.t.a d.t.t.len d.t.t.cap, .int .i64 d.t.t.n, .int .i64 d.t.t.s, .slice d.ka d.n d.kc]] w (Tells (nodeOk d) w) := by
  have KC := fun W => kidCount_any 1 W
  have e1 : kLo 1 = 0 := by decide
  have e2 : kHi 1 = 0 := by decide
  rw [e1, e2] at KC
  clear e1 e2
  have WI := fun W => within_any (d.n : Int) 0 0 W
  have HIB : Hid (∀ W, Below w.heap.size w W → Calls Try.prog 66 #[.agg #[.int .i64 1, .int .i64 d.op, .slice d.v.a d.v.len d.v.cap, .int .i64 0, .slice none 0 0, .int .i64 0, .int .i64 0, .slice d.ka d.n d.kc]] W (Tells (BareN ⟨1, d.op, d.v, ⟨⟨0, none, 0, 0, 0, 0⟩, []⟩, d.ka, d.kc, d.n⟩) W)) := fun W hb => isBare_any ⟨1, d.op, d.v, ⟨⟨0, none, 0, 0, 0, 0⟩, []⟩, d.ka, d.kc, d.n⟩ W (hv.upper (Upper.of_below hb)) (bs_nil W)
  have HKO : Hid (kOk d.k d.n ↔ ((0 : Int) ≤ (d.n : Int) ∧ (d.n : Int) ≤ 0)) := (show (_ ↔ _) by rw [hkv]; unfold kOk; omega)
  have HKV : Hid (d.k = 1) := hkv
  have HTO : Hid (∀ W, Below w.heap.size w W → Calls Try.prog 55 #[.agg #[.int .i64 d.t.t.k, .slice d.t.t.a d.t.t.len d.t.t.cap, .int .i64 d.t.t.n, .int .i64 d.t.t.s]] W fun e w' => e = .returned (.bool (termOk d.t.t.k d.t.b d.t.t.n d.t.t.s)) ∧ Below W.heap.size W w') := fun W hb => implTermOk_any d.t.t.k d.t.t.n d.t.t.s d.t.t.a d.t.t.len d.t.t.cap d.t.b W (ht.upper (Upper.of_below hb)).1 hf.1 hf.2.1 hf.2.2.1 hf.2.2.2
  rw [hkv]
  clear hv ht hf hkv
  go_enter Try.func46, Try.ntmps46
  go_wp2_with fail
  refine (KC _).mono ?_
  rintro e w1 ⟨rfl, rfl⟩
  clear KC
  go_wp2_with fail
  refine (WI _).mono ?_
  rintro e w1 ⟨rfl, rfl⟩
  clear WI
  by_cases hkn : (0 : Int) ≤ (d.n : Int) ∧ (d.n : Int) ≤ 0
  rotate_left
  · have hw2 : (decide ((0 : Int) ≤ (d.n : Int)) && decide ((d.n : Int) ≤ 0)) = false := by simp; omega
    have HNO : Hid (¬ nodeOk d) := fun hh => hkn (HKO.out.1 hh.1)
    rw [hw2]
    clear hkn hw2
    go_wp2_with fail
    go_ret
    exact Tells.no HNO.out (bl_a _)
  have hw2 : (decide ((0 : Int) ≤ (d.n : Int)) && decide ((d.n : Int) ≤ 0)) = true := by simp; omega
  have HK : Hid (kOk d.k d.n) := HKO.out.2 hkn
  rw [hw2]
  clear hkn hw2 HKO
  have TO := HTO.out
  cases hnm : termOk d.t.t.k d.t.b d.t.t.n d.t.t.s with
  | false =>
    rw [hnm] at TO
    have HNO : Hid (¬ nodeOk d) := fun hh => by have h := hh.2.2.2.1 HKV.out; have h2 : termOk d.t.t.k d.t.b d.t.t.n d.t.t.s = true := h; rw [hnm] at h2; cases h2
    clear hnm
    go_wp2_with fail
    refine (TO _ (bl_alloc (bl_a _) _)).mono ?_
    rintro e w3 ⟨rfl, hb3⟩
    have HB3 : Hid (Below w.heap.size w w3) := bl_trans (bl_alloc (bl_a _) _) hb3
    have r3 : OB w3 (w.heap.size + 1) [.int .i64 1, .int .i64 d.op, .slice d.v.a d.v.len d.v.cap, .int .i64 d.t.t.k, .slice d.t.t.a d.t.t.len d.t.t.cap, .int .i64 d.t.t.n, .int .i64 d.t.t.s, .slice d.ka d.n d.kc] := (show OB _ _ _ by have h := (OB.new (w.alloc (.cells #[.int .i64 1, .int .i64 d.op, .slice d.v.a d.v.len d.v.cap, .int .i64 d.t.t.k, .slice d.t.t.a d.t.t.len d.t.t.cap, .int .i64 d.t.t.n, .int .i64 d.t.t.s, .slice d.ka d.n d.kc] 29)) #[.int .i64 1, .int .i64 d.op, .slice d.v.a d.v.len d.v.cap, .int .i64 d.t.t.k, .slice d.t.t.a d.t.t.len d.t.t.cap, .int .i64 d.t.t.n, .int .i64 d.t.t.s, .slice d.ka d.n d.kc] 29).below hb3; simpa using h)
    have HBf : Hid (Below w.heap.size w (w3.setCells (w.heap.size + 1) 3 [.int .i64 0, .slice none 0 0, .int .i64 0, .int .i64 0])) := below_sets _ (Nat.le_succ _) _ _ _ HB3.out
    have st0 : w3.there (w.heap.size + 1) 3 4 := r3.there 3 4 (by simp)
    have one1 : (#[.int .i64 0, .slice none 0 0, .int .i64 0, .int .i64 0] : Array Value).all (·.oneCell') = true := all_oneCell_toArray (cs := [.int .i64 0, .slice none 0 0, .int .i64 0, .int .i64 0]) (by simp [Value.oneCell'])
    clear TO hb3 r3
    go_upto_region 18 with (with_reducible refine wpl_at ?_; refine wpList_store_mid rfl 24 _ _ rfl _ _ _ rfl rfl st0 (by kernel_rfl) one1 ?_; try simp only [Act.put])
    generalize w3.setCells (w.heap.size + 1) 3 [.int .i64 0, .slice none 0 0, .int .i64 0, .int .i64 0] = W4 at *
    clear st0 one1
    go_wp2_with fail
    go_ret
    exact Tells.no HNO.out HBf.out
  | true =>
    rw [hnm] at TO
    have HNM : Hid (d.t.td.ok = true) := hnm
    clear hnm
    go_wp2_with fail
    refine (TO _ (bl_alloc (bl_a _) _)).mono ?_
    rintro e w3 ⟨rfl, hb3⟩
    have HB3 : Hid (Below w.heap.size w w3) := bl_trans (bl_alloc (bl_a _) _) hb3
    have r3 : OB w3 (w.heap.size + 1) [.int .i64 1, .int .i64 d.op, .slice d.v.a d.v.len d.v.cap, .int .i64 d.t.t.k, .slice d.t.t.a d.t.t.len d.t.t.cap, .int .i64 d.t.t.n, .int .i64 d.t.t.s, .slice d.ka d.n d.kc] := (show OB _ _ _ by have h := (OB.new (w.alloc (.cells #[.int .i64 1, .int .i64 d.op, .slice d.v.a d.v.len d.v.cap, .int .i64 d.t.t.k, .slice d.t.t.a d.t.t.len d.t.t.cap, .int .i64 d.t.t.n, .int .i64 d.t.t.s, .slice d.ka d.n d.kc] 29)) #[.int .i64 1, .int .i64 d.op, .slice d.v.a d.v.len d.v.cap, .int .i64 d.t.t.k, .slice d.t.t.a d.t.t.len d.t.t.cap, .int .i64 d.t.t.n, .int .i64 d.t.t.s, .slice d.ka d.n d.kc] 29).below hb3; simpa using h)
    have HBf : Hid (Below w.heap.size w (w3.setCells (w.heap.size + 1) 3 [.int .i64 0, .slice none 0 0, .int .i64 0, .int .i64 0])) := below_sets _ (Nat.le_succ _) _ _ _ HB3.out
    have HR4 : Hid (Box (w3.setCells (w.heap.size + 1) 3 [.int .i64 0, .slice none 0 0, .int .i64 0, .int .i64 0]) (w.heap.size + 1) [.int .i64 1, .int .i64 d.op, .slice d.v.a d.v.len d.v.cap, .int .i64 0, .slice none 0 0, .int .i64 0, .int .i64 0, .slice d.ka d.n d.kc]) := (r3.sets [.int .i64 0, .slice none 0 0, .int .i64 0, .int .i64 0] 3).box
    have st0 : w3.there (w.heap.size + 1) 3 4 := r3.there 3 4 (by simp)
    have one1 : (#[.int .i64 0, .slice none 0 0, .int .i64 0, .int .i64 0] : Array Value).all (·.oneCell') = true := all_oneCell_toArray (cs := [.int .i64 0, .slice none 0 0, .int .i64 0, .int .i64 0]) (by simp [Value.oneCell'])
    clear TO hb3 r3
    go_upto_region 18 with (with_reducible refine wpl_at ?_; refine wpList_store_mid rfl 24 _ _ rfl _ _ _ rfl rfl st0 (by kernel_rfl) one1 ?_; try simp only [Act.put])
    generalize w3.setCells (w.heap.size + 1) 3 [.int .i64 0, .slice none 0 0, .int .i64 0, .int .i64 0] = W4 at *
    clear st0 one1
    have s0 := HR4.out.2 0 _ rfl
    have s1 := HR4.out.2 1 _ rfl
    have s2 := HR4.out.2 2 _ rfl
    have s3 := HR4.out.2 3 _ rfl
    have s4 := HR4.out.2 4 _ rfl
    have s5 := HR4.out.2 5 _ rfl
    have s6 := HR4.out.2 6 _ rfl
    have s7 := HR4.out.2 7 _ rfl
    go_wp2_with fail
    refine (HIB.out _ HBf.out).mono ?_
    rintro e w9 ⟨q9, rfl, hq9, hb9⟩
    have HE : Hid (q9 = true ↔ nodeOk d) := (show (q9 = true ↔ nodeOk d) from hq9.trans ⟨fun h => ⟨HK.out, fun h2 => absurd h2 (by rw [HKV.out]; decide), fun _ => h.2.1, fun _ => HNM.out, fun h2 => absurd HKV.out h2, ⟨by rw [h.1]; decide, by rw [h.1]; decide⟩, fun _ => h.1⟩, fun h => BareN.mk (h.2.2.2.2.2.2 (by rw [HKV.out]; decide)) (h.2.2.1 (by rw [HKV.out]; decide)) zeroT0⟩)
    have HB9 : Hid (Below w.heap.size w w9) := bl_trans HBf.out hb9
    clear hq9 hb9
    go_wp2_with fail
    go_ret
    exact Tells.of HE.out HB9.out

end Go.Proofs.Ytidhcbjhggdncaa

/- TreP2 -/
namespace Go.Proofs.Ytidhcbjhggdncaa
open Go.RowKit Go.Deep
set_option maxRecDepth 100000


set_option maxHeartbeats 4000000 in
theorem hasOwnE_2 (d : EN) (w : World) (hkv : d.k = 2) (hv : BsF 0 w d.v) (ht : BsF 0 w d.t.sl) (_hf : d.t.t.fits) (hn : d.n ≤ 1048576) : Calls Try.prog 46 #[.agg #[.int .i64 d.k, .int .i64 d.op, .slice d.v.a d.v.len d.v.cap, .int .i64 d.t.t.k, .slice d.t.t.a d.t.t.len d.t.t.cap, .int .i64 d.t.t.n, .int .i64 d.t.t.s, .slice d.ka d.n d.kc]] w (Tells (nodeOk d) w) := by
  have KC := fun W => kidCount_any 2 W
  have e1 : kLo 2 = 2 := by decide
  have e2 : kHi 2 = 2 := by decide
  rw [e1, e2] at KC
  clear e1 e2
  have WI := fun W => within_any (d.n : Int) 2 2 W
  have HIB : Hid (∀ W, Below w.heap.size w W → Calls Try.prog 66 #[.agg #[.int .i64 2, .int .i64 0, .slice d.v.a d.v.len d.v.cap, .int .i64 d.t.t.k, .slice d.t.t.a d.t.t.len d.t.t.cap, .int .i64 d.t.t.n, .int .i64 d.t.t.s, .slice d.ka d.n d.kc]] W (Tells (BareN ⟨2, 0, d.v, d.t, d.ka, d.kc, d.n⟩) W)) := fun W hb => isBare_any ⟨2, 0, d.v, d.t, d.ka, d.kc, d.n⟩ W (hv.upper (Upper.of_below hb)) (ht.upper (Upper.of_below hb))
  have HKO : Hid (kOk d.k d.n ↔ ((2 : Int) ≤ (d.n : Int) ∧ (d.n : Int) ≤ 2)) := (show (_ ↔ _) by rw [hkv]; unfold kOk; omega)
  have HKV : Hid (d.k = 2) := hkv
  have WO := fun W => within_any d.op 0 7 W
  rw [hkv]
  clear hv ht hkv
  go_enter Try.func46, Try.ntmps46
  go_wp2_with fail
  refine (KC _).mono ?_
  rintro e w1 ⟨rfl, rfl⟩
  clear KC
  go_wp2_with fail
  refine (WI _).mono ?_
  rintro e w1 ⟨rfl, rfl⟩
  clear WI
  by_cases hkn : (2 : Int) ≤ (d.n : Int) ∧ (d.n : Int) ≤ 2
  rotate_left
  · have hw2 : (decide ((2 : Int) ≤ (d.n : Int)) && decide ((d.n : Int) ≤ 2)) = false := by simp; omega
    have HNO : Hid (¬ nodeOk d) := fun hh => hkn (HKO.out.1 hh.1)
    rw [hw2]
    clear hkn hw2
    go_wp2_with fail
    go_ret
    exact Tells.no HNO.out (bl_a _)
  have hw2 : (decide ((2 : Int) ≤ (d.n : Int)) && decide ((d.n : Int) ≤ 2)) = true := by simp; omega
  have HK : Hid (kOk d.k d.n) := HKO.out.2 hkn
  rw [hw2]
  clear hkn hw2 HKO
  by_cases ho : 0 ≤ d.op ∧ d.op ≤ 7
  rotate_left
  · have hw3 : (decide (0 ≤ d.op) && decide (d.op ≤ 7)) = false := by simp; omega
    have HNO : Hid (¬ nodeOk d) := fun hh => ho hh.2.2.2.2.2.1
    rw [hw3] at WO
    clear ho hw3
    go_wp2_with fail
    refine (WO _).mono ?_
    rintro e w3 ⟨rfl, rfl⟩
    clear WO
    go_wp2_with fail
    go_ret
    exact Tells.no HNO.out (bl_alloc (bl_a _) _)
  have hw3 : (decide (0 ≤ d.op) && decide (d.op ≤ 7)) = true := by simp; omega
  have HO : Hid (0 ≤ d.op ∧ d.op ≤ 7) := ho
  rw [hw3] at WO
  clear ho hw3
  go_wp2_with fail
  refine (WO _).mono ?_
  rintro e w3 ⟨rfl, rfl⟩
  clear WO
  go_wp2_with fail
  refine (HIB.out _ (bl_alloc (bl_a _) _)).mono ?_
  rintro e w9 ⟨q9, rfl, hq9, hb9⟩
  have HE : Hid (q9 = true ↔ nodeOk d) := (show (q9 = true ↔ nodeOk d) from hq9.trans ⟨fun h => ⟨HK.out, fun h2 => absurd h2 (by rw [HKV.out]; decide), fun _ => h.2.1, fun h2 => absurd h2 (by rw [HKV.out]; decide), fun _ => h.2.2, HO.out, fun h2 => absurd HKV.out h2⟩, fun h => BareN.mk rfl (h.2.2.1 (by rw [HKV.out]; decide)) (h.2.2.2.2.1 (by rw [HKV.out]; decide))⟩)
  have HB9 : Hid (Below w.heap.size w w9) := bl_trans (bl_alloc (bl_a _) _) hb9
  clear hq9 hb9
  go_wp2_with fail
  go_ret
  exact Tells.of HE.out HB9.out

end Go.Proofs.Ytidhcbjhggdncaa

/- TreP3 -/
namespace Go.Proofs.Ytidhcbjhggdncaa
open Go.RowKit Go.Deep
set_option maxRecDepth 100000


set_option maxHeartbeats 4000000 in
theorem hasOwnE_3 (d : EN) (w : World) (hkv : d.k = 3) (hv : BsF 0 w d.v) (ht : BsF 0 w d.t.sl) (_hf : d.t.t.fits) (hn : d.n ≤ 1048576) : Calls Try.prog 46 #[.agg #[.int .i64 d.k, .int .i64 d.op, .slice d.v.a d.v.len d.v.cap, .int .i64 d.t.t.k, .slice d.t.t.a d.t.t.len d.t.t.cap, .int .i64 d.t.t.n, .int .i64 d.t.t.s, .slice d.ka d.n d.kc]] w (Tells (nodeOk d) w) := by
  have KC := fun W => kidCount_any 3 W
  have e1 : kLo 3 = 1 := by decide
  have e2 : kHi 3 = 1 := by decide
  rw [e1, e2] at KC
  clear e1 e2
  have WI := fun W => within_any (d.n : Int) 1 1 W
  have HIB : Hid (∀ W, Below w.heap.size w W → Calls Try.prog 66 #[.agg #[.int .i64 3, .int .i64 d.op, .slice d.v.a d.v.len d.v.cap, .int .i64 d.t.t.k, .slice d.t.t.a d.t.t.len d.t.t.cap, .int .i64 d.t.t.n, .int .i64 d.t.t.s, .slice d.ka d.n d.kc]] W (Tells (BareN ⟨3, d.op, d.v, d.t, d.ka, d.kc, d.n⟩) W)) := fun W hb => isBare_any ⟨3, d.op, d.v, d.t, d.ka, d.kc, d.n⟩ W (hv.upper (Upper.of_below hb)) (ht.upper (Upper.of_below hb))
  have HKO : Hid (kOk d.k d.n ↔ ((1 : Int) ≤ (d.n : Int) ∧ (d.n : Int) ≤ 1)) := (show (_ ↔ _) by rw [hkv]; unfold kOk; omega)
  have HKV : Hid (d.k = 3) := hkv
  rw [hkv]
  clear hv ht hkv
  go_enter Try.func46, Try.ntmps46
  go_wp2_with fail
  refine (KC _).mono ?_
  rintro e w1 ⟨rfl, rfl⟩
  clear KC
  go_wp2_with fail
  refine (WI _).mono ?_
  rintro e w1 ⟨rfl, rfl⟩
  clear WI
  by_cases hkn : (1 : Int) ≤ (d.n : Int) ∧ (d.n : Int) ≤ 1
  rotate_left
  · have hw2 : (decide ((1 : Int) ≤ (d.n : Int)) && decide ((d.n : Int) ≤ 1)) = false := by simp; omega
    have HNO : Hid (¬ nodeOk d) := fun hh => hkn (HKO.out.1 hh.1)
    rw [hw2]
    clear hkn hw2
    go_wp2_with fail
    go_ret
    exact Tells.no HNO.out (bl_a _)
  have hw2 : (decide ((1 : Int) ≤ (d.n : Int)) && decide ((d.n : Int) ≤ 1)) = true := by simp; omega
  have HK : Hid (kOk d.k d.n) := HKO.out.2 hkn
  rw [hw2]
  clear hkn hw2 HKO
  go_wp2_with fail
  refine (HIB.out _ (bl_alloc (bl_a _) _)).mono ?_
  rintro e w9 ⟨q9, rfl, hq9, hb9⟩
  have HE : Hid (q9 = true ↔ nodeOk d) := (show (q9 = true ↔ nodeOk d) from hq9.trans ⟨fun h => ⟨HK.out, fun h2 => absurd h2 (by rw [HKV.out]; decide), fun _ => h.2.1, fun h2 => absurd h2 (by rw [HKV.out]; decide), fun _ => h.2.2, ⟨by rw [h.1]; decide, by rw [h.1]; decide⟩, fun _ => h.1⟩, fun h => BareN.mk (h.2.2.2.2.2.2 (by rw [HKV.out]; decide)) (h.2.2.1 (by rw [HKV.out]; decide)) (h.2.2.2.2.1 (by rw [HKV.out]; decide))⟩)
  have HB9 : Hid (Below w.heap.size w w9) := bl_trans (bl_alloc (bl_a _) _) hb9
  clear hq9 hb9
  go_wp2_with fail
  go_ret
  exact Tells.of HE.out HB9.out

end Go.Proofs.Ytidhcbjhggdncaa

/- TreP4 -/
namespace Go.Proofs.Ytidhcbjhggdncaa
open Go.RowKit Go.Deep
set_option maxRecDepth 100000


set_option maxHeartbeats 4000000 in
theorem hasOwnE_4 (d : EN) (w : World) (hkv : d.k = 4) (hv : BsF 0 w d.v) (ht : BsF 0 w d.t.sl) (_hf : d.t.t.fits) (hn : d.n ≤ 1048576) : Calls Try.prog 46 #[.agg #[.int .i64 d.k, .int .i64 d.op, .slice d.v.a d.v.len d.v.cap, .int .i64 d.t.t.k, .slice d.t.t.a d.t.t.len d.t.t.cap, .int .i64 d.t.t.n, .int .i64 d.t.t.s, .slice d.ka d.n d.kc]] w (Tells (nodeOk d) w) := by
  have KC := fun W => kidCount_any 4 W
  have e1 : kLo 4 = 0 := by decide
  have e2 : kHi 4 = 0 := by decide
  rw [e1, e2] at KC
  clear e1 e2
  have WI := fun W => within_any (d.n : Int) 0 0 W
  have HIB : Hid (∀ W, Below w.heap.size w W → Calls Try.prog 66 #[.agg #[.int .i64 4, .int .i64 d.op, .slice none 0 0, .int .i64 d.t.t.k, .slice d.t.t.a d.t.t.len d.t.t.cap, .int .i64 d.t.t.n, .int .i64 d.t.t.s, .slice d.ka d.n d.kc]] W (Tells (BareN ⟨4, d.op, ⟨none, 0, 0, []⟩, d.t, d.ka, d.kc, d.n⟩) W)) := fun W hb => isBare_any ⟨4, d.op, ⟨none, 0, 0, []⟩, d.t, d.ka, d.kc, d.n⟩ W (bs_nil W) (ht.upper (Upper.of_below hb))
  have HKO : Hid (kOk d.k d.n ↔ ((0 : Int) ≤ (d.n : Int) ∧ (d.n : Int) ≤ 0)) := (show (_ ↔ _) by rw [hkv]; unfold kOk; omega)
  have HKV : Hid (d.k = 4) := hkv
  have HIN : Hid (∀ W, Below w.heap.size w W → Calls Try.prog 24 #[.slice d.v.a d.v.len d.v.cap] W fun e w' => e = .returned (.bool (nameOk d.v.b)) ∧ w' = W) := fun W hb => isName_any d.v.a d.v.len d.v.cap d.v.b W (hv.upper (Upper.of_below hb)).1
  rw [hkv]
  clear hv ht hkv
  go_enter Try.func46, Try.ntmps46
  go_wp2_with fail
  refine (KC _).mono ?_
  rintro e w1 ⟨rfl, rfl⟩
  clear KC
  go_wp2_with fail
  refine (WI _).mono ?_
  rintro e w1 ⟨rfl, rfl⟩
  clear WI
  by_cases hkn : (0 : Int) ≤ (d.n : Int) ∧ (d.n : Int) ≤ 0
  rotate_left
  · have hw2 : (decide ((0 : Int) ≤ (d.n : Int)) && decide ((d.n : Int) ≤ 0)) = false := by simp; omega
    have HNO : Hid (¬ nodeOk d) := fun hh => hkn (HKO.out.1 hh.1)
    rw [hw2]
    clear hkn hw2
    go_wp2_with fail
    go_ret
    exact Tells.no HNO.out (bl_a _)
  have hw2 : (decide ((0 : Int) ≤ (d.n : Int)) && decide ((d.n : Int) ≤ 0)) = true := by simp; omega
  have HK : Hid (kOk d.k d.n) := HKO.out.2 hkn
  rw [hw2]
  clear hkn hw2 HKO
  have IN := HIN.out
  cases hnm : nameOk d.v.b with
  | false =>
    rw [hnm] at IN
    have HNO : Hid (¬ nodeOk d) := fun hh => by have h := hh.2.1 (by rw [HKV.out]; simp); rw [hnm] at h; cases h
    clear hnm
    go_wp2_with fail
    refine (IN _ (bl_alloc (bl_a _) _)).mono ?_
    rintro e w3 ⟨rfl, rfl⟩
    clear IN
    go_wp2_with fail
    go_ret
    exact Tells.no HNO.out (bl_alloc (bl_a _) _)
  | true =>
    rw [hnm] at IN
    have HNM : Hid (nameOk d.v.b = true) := hnm
    clear hnm
    go_wp2_with fail
    refine (IN _ (bl_alloc (bl_a _) _)).mono ?_
    rintro e w3 ⟨rfl, rfl⟩
    clear IN
    go_wp2_with fail
    refine (HIB.out _ (bl_alloc (bl_a _) _)).mono ?_
    rintro e w9 ⟨q9, rfl, hq9, hb9⟩
    have HE : Hid (q9 = true ↔ nodeOk d) := (show (q9 = true ↔ nodeOk d) from hq9.trans ⟨fun h => ⟨HK.out, fun _ => HNM.out, fun h2 => absurd (by rw [HKV.out]; simp) h2, fun h2 => absurd h2 (by rw [HKV.out]; decide), fun _ => h.2.2, ⟨by rw [h.1]; decide, by rw [h.1]; decide⟩, fun _ => h.1⟩, fun h => BareN.mk (h.2.2.2.2.2.2 (by rw [HKV.out]; decide)) rfl (h.2.2.2.2.1 (by rw [HKV.out]; decide))⟩)
    have HB9 : Hid (Below w.heap.size w w9) := bl_trans (bl_alloc (bl_a _) _) hb9
    clear hq9 hb9
    go_wp2_with fail
    go_ret
    exact Tells.of HE.out HB9.out

end Go.Proofs.Ytidhcbjhggdncaa

/- TreP5 -/
namespace Go.Proofs.Ytidhcbjhggdncaa
open Go.RowKit Go.Deep
set_option maxRecDepth 100000


set_option maxHeartbeats 4000000 in
theorem hasOwnE_5 (d : EN) (w : World) (hkv : d.k = 5) (hv : BsF 0 w d.v) (ht : BsF 0 w d.t.sl) (_hf : d.t.t.fits) (hn : d.n ≤ 1048576) : Calls Try.prog 46 #[.agg #[.int .i64 d.k, .int .i64 d.op, .slice d.v.a d.v.len d.v.cap, .int .i64 d.t.t.k, .slice d.t.t.a d.t.t.len d.t.t.cap, .int .i64 d.t.t.n, .int .i64 d.t.t.s, .slice d.ka d.n d.kc]] w (Tells (nodeOk d) w) := by
  have KC := fun W => kidCount_any 5 W
  have e1 : kLo 5 = 3 := by decide
  have e2 : kHi 5 = 3 := by decide
  rw [e1, e2] at KC
  clear e1 e2
  have WI := fun W => within_any (d.n : Int) 3 3 W
  have HIB : Hid (∀ W, Below w.heap.size w W → Calls Try.prog 66 #[.agg #[.int .i64 5, .int .i64 d.op, .slice d.v.a d.v.len d.v.cap, .int .i64 d.t.t.k, .slice d.t.t.a d.t.t.len d.t.t.cap, .int .i64 d.t.t.n, .int .i64 d.t.t.s, .slice d.ka d.n d.kc]] W (Tells (BareN ⟨5, d.op, d.v, d.t, d.ka, d.kc, d.n⟩) W)) := fun W hb => isBare_any ⟨5, d.op, d.v, d.t, d.ka, d.kc, d.n⟩ W (hv.upper (Upper.of_below hb)) (ht.upper (Upper.of_below hb))
  have HKO : Hid (kOk d.k d.n ↔ ((3 : Int) ≤ (d.n : Int) ∧ (d.n : Int) ≤ 3)) := (show (_ ↔ _) by rw [hkv]; unfold kOk; omega)
  have HKV : Hid (d.k = 5) := hkv
  rw [hkv]
  clear hv ht hkv
  go_enter Try.func46, Try.ntmps46
  go_wp2_with fail
  refine (KC _).mono ?_
  rintro e w1 ⟨rfl, rfl⟩
  clear KC
  go_wp2_with fail
  refine (WI _).mono ?_
  rintro e w1 ⟨rfl, rfl⟩
  clear WI
  by_cases hkn : (3 : Int) ≤ (d.n : Int) ∧ (d.n : Int) ≤ 3
  rotate_left
  · have hw2 : (decide ((3 : Int) ≤ (d.n : Int)) && decide ((d.n : Int) ≤ 3)) = false := by simp; omega
    have HNO : Hid (¬ nodeOk d) := fun hh => hkn (HKO.out.1 hh.1)
    rw [hw2]
    clear hkn hw2
    go_wp2_with fail
    go_ret
    exact Tells.no HNO.out (bl_a _)
  have hw2 : (decide ((3 : Int) ≤ (d.n : Int)) && decide ((d.n : Int) ≤ 3)) = true := by simp; omega
  have HK : Hid (kOk d.k d.n) := HKO.out.2 hkn
  rw [hw2]
  clear hkn hw2 HKO
  go_wp2_with fail
  refine (HIB.out _ (bl_alloc (bl_a _) _)).mono ?_
  rintro e w9 ⟨q9, rfl, hq9, hb9⟩
  have HE : Hid (q9 = true ↔ nodeOk d) := (show (q9 = true ↔ nodeOk d) from hq9.trans ⟨fun h => ⟨HK.out, fun h2 => absurd h2 (by rw [HKV.out]; decide), fun _ => h.2.1, fun h2 => absurd h2 (by rw [HKV.out]; decide), fun _ => h.2.2, ⟨by rw [h.1]; decide, by rw [h.1]; decide⟩, fun _ => h.1⟩, fun h => BareN.mk (h.2.2.2.2.2.2 (by rw [HKV.out]; decide)) (h.2.2.1 (by rw [HKV.out]; decide)) (h.2.2.2.2.1 (by rw [HKV.out]; decide))⟩)
  have HB9 : Hid (Below w.heap.size w w9) := bl_trans (bl_alloc (bl_a _) _) hb9
  clear hq9 hb9
  go_wp2_with fail
  go_ret
  exact Tells.of HE.out HB9.out

end Go.Proofs.Ytidhcbjhggdncaa

/- TreP6 -/
namespace Go.Proofs.Ytidhcbjhggdncaa
open Go.RowKit Go.Deep
set_option maxRecDepth 100000


set_option maxHeartbeats 4000000 in
theorem hasOwnE_6 (d : EN) (w : World) (hkv : d.k = 6) (hv : BsF 0 w d.v) (ht : BsF 0 w d.t.sl) (_hf : d.t.t.fits) (hn : d.n ≤ 1048576) : Calls Try.prog 46 #[.agg #[.int .i64 d.k, .int .i64 d.op, .slice d.v.a d.v.len d.v.cap, .int .i64 d.t.t.k, .slice d.t.t.a d.t.t.len d.t.t.cap, .int .i64 d.t.t.n, .int .i64 d.t.t.s, .slice d.ka d.n d.kc]] w (Tells (nodeOk d) w) := by
  have KC := fun W => kidCount_any 6 W
  have e1 : kLo 6 = 1 := by decide
  have e2 : kHi 6 = 4 := by decide
  rw [e1, e2] at KC
  clear e1 e2
  have WI := fun W => within_any (d.n : Int) 1 4 W
  have HIB : Hid (∀ W, Below w.heap.size w W → Calls Try.prog 66 #[.agg #[.int .i64 6, .int .i64 d.op, .slice d.v.a d.v.len d.v.cap, .int .i64 d.t.t.k, .slice d.t.t.a d.t.t.len d.t.t.cap, .int .i64 d.t.t.n, .int .i64 d.t.t.s, .slice d.ka d.n d.kc]] W (Tells (BareN ⟨6, d.op, d.v, d.t, d.ka, d.kc, d.n⟩) W)) := fun W hb => isBare_any ⟨6, d.op, d.v, d.t, d.ka, d.kc, d.n⟩ W (hv.upper (Upper.of_below hb)) (ht.upper (Upper.of_below hb))
  have HKO : Hid (kOk d.k d.n ↔ ((1 : Int) ≤ (d.n : Int) ∧ (d.n : Int) ≤ 4)) := (show (_ ↔ _) by rw [hkv]; unfold kOk; omega)
  have HKV : Hid (d.k = 6) := hkv
  rw [hkv]
  clear hv ht hkv
  go_enter Try.func46, Try.ntmps46
  go_wp2_with fail
  refine (KC _).mono ?_
  rintro e w1 ⟨rfl, rfl⟩
  clear KC
  go_wp2_with fail
  refine (WI _).mono ?_
  rintro e w1 ⟨rfl, rfl⟩
  clear WI
  by_cases hkn : (1 : Int) ≤ (d.n : Int) ∧ (d.n : Int) ≤ 4
  rotate_left
  · have hw2 : (decide ((1 : Int) ≤ (d.n : Int)) && decide ((d.n : Int) ≤ 4)) = false := by simp; omega
    have HNO : Hid (¬ nodeOk d) := fun hh => hkn (HKO.out.1 hh.1)
    rw [hw2]
    clear hkn hw2
    go_wp2_with fail
    go_ret
    exact Tells.no HNO.out (bl_a _)
  have hw2 : (decide ((1 : Int) ≤ (d.n : Int)) && decide ((d.n : Int) ≤ 4)) = true := by simp; omega
  have HK : Hid (kOk d.k d.n) := HKO.out.2 hkn
  rw [hw2]
  clear hkn hw2 HKO
  go_wp2_with fail
  refine (HIB.out _ (bl_alloc (bl_a _) _)).mono ?_
  rintro e w9 ⟨q9, rfl, hq9, hb9⟩
  have HE : Hid (q9 = true ↔ nodeOk d) := (show (q9 = true ↔ nodeOk d) from hq9.trans ⟨fun h => ⟨HK.out, fun h2 => absurd h2 (by rw [HKV.out]; decide), fun _ => h.2.1, fun h2 => absurd h2 (by rw [HKV.out]; decide), fun _ => h.2.2, ⟨by rw [h.1]; decide, by rw [h.1]; decide⟩, fun _ => h.1⟩, fun h => BareN.mk (h.2.2.2.2.2.2 (by rw [HKV.out]; decide)) (h.2.2.1 (by rw [HKV.out]; decide)) (h.2.2.2.2.1 (by rw [HKV.out]; decide))⟩)
  have HB9 : Hid (Below w.heap.size w w9) := bl_trans (bl_alloc (bl_a _) _) hb9
  clear hq9 hb9
  go_wp2_with fail
  go_ret
  exact Tells.of HE.out HB9.out

end Go.Proofs.Ytidhcbjhggdncaa

/- TreP7 -/
namespace Go.Proofs.Ytidhcbjhggdncaa
open Go.RowKit Go.Deep
set_option maxRecDepth 100000


set_option maxHeartbeats 4000000 in
theorem hasOwnE_7 (d : EN) (w : World) (hkv : d.k = 7) (hv : BsF 0 w d.v) (ht : BsF 0 w d.t.sl) (_hf : d.t.t.fits) (hn : d.n ≤ 1048576) : Calls Try.prog 46 #[.agg #[.int .i64 d.k, .int .i64 d.op, .slice d.v.a d.v.len d.v.cap, .int .i64 d.t.t.k, .slice d.t.t.a d.t.t.len d.t.t.cap, .int .i64 d.t.t.n, .int .i64 d.t.t.s, .slice d.ka d.n d.kc]] w (Tells (nodeOk d) w) := by
  have KC := fun W => kidCount_any 7 W
  have e1 : kLo 7 = 1 := by decide
  have e2 : kHi 7 = 1 := by decide
  rw [e1, e2] at KC
  clear e1 e2
  have WI := fun W => within_any (d.n : Int) 1 1 W
  have HIB : Hid (∀ W, Below w.heap.size w W → Calls Try.prog 66 #[.agg #[.int .i64 7, .int .i64 d.op, .slice d.v.a d.v.len d.v.cap, .int .i64 d.t.t.k, .slice d.t.t.a d.t.t.len d.t.t.cap, .int .i64 d.t.t.n, .int .i64 d.t.t.s, .slice d.ka d.n d.kc]] W (Tells (BareN ⟨7, d.op, d.v, d.t, d.ka, d.kc, d.n⟩) W)) := fun W hb => isBare_any ⟨7, d.op, d.v, d.t, d.ka, d.kc, d.n⟩ W (hv.upper (Upper.of_below hb)) (ht.upper (Upper.of_below hb))
  have HKO : Hid (kOk d.k d.n ↔ ((1 : Int) ≤ (d.n : Int) ∧ (d.n : Int) ≤ 1)) := (show (_ ↔ _) by rw [hkv]; unfold kOk; omega)
  have HKV : Hid (d.k = 7) := hkv
  rw [hkv]
  clear hv ht hkv
  go_enter Try.func46, Try.ntmps46
  go_wp2_with fail
  refine (KC _).mono ?_
  rintro e w1 ⟨rfl, rfl⟩
  clear KC
  go_wp2_with fail
  refine (WI _).mono ?_
  rintro e w1 ⟨rfl, rfl⟩
  clear WI
  by_cases hkn : (1 : Int) ≤ (d.n : Int) ∧ (d.n : Int) ≤ 1
  rotate_left
  · have hw2 : (decide ((1 : Int) ≤ (d.n : Int)) && decide ((d.n : Int) ≤ 1)) = false := by simp; omega
    have HNO : Hid (¬ nodeOk d) := fun hh => hkn (HKO.out.1 hh.1)
    rw [hw2]
    clear hkn hw2
    go_wp2_with fail
    go_ret
    exact Tells.no HNO.out (bl_a _)
  have hw2 : (decide ((1 : Int) ≤ (d.n : Int)) && decide ((d.n : Int) ≤ 1)) = true := by simp; omega
  have HK : Hid (kOk d.k d.n) := HKO.out.2 hkn
  rw [hw2]
  clear hkn hw2 HKO
  go_wp2_with fail
  refine (HIB.out _ (bl_alloc (bl_a _) _)).mono ?_
  rintro e w9 ⟨q9, rfl, hq9, hb9⟩
  have HE : Hid (q9 = true ↔ nodeOk d) := (show (q9 = true ↔ nodeOk d) from hq9.trans ⟨fun h => ⟨HK.out, fun h2 => absurd h2 (by rw [HKV.out]; decide), fun _ => h.2.1, fun h2 => absurd h2 (by rw [HKV.out]; decide), fun _ => h.2.2, ⟨by rw [h.1]; decide, by rw [h.1]; decide⟩, fun _ => h.1⟩, fun h => BareN.mk (h.2.2.2.2.2.2 (by rw [HKV.out]; decide)) (h.2.2.1 (by rw [HKV.out]; decide)) (h.2.2.2.2.1 (by rw [HKV.out]; decide))⟩)
  have HB9 : Hid (Below w.heap.size w w9) := bl_trans (bl_alloc (bl_a _) _) hb9
  clear hq9 hb9
  go_wp2_with fail
  go_ret
  exact Tells.of HE.out HB9.out

end Go.Proofs.Ytidhcbjhggdncaa

/- TreQ -/
namespace Go.Proofs.Ytidhcbjhggdncaa
open Go.RowKit Go.Deep
set_option maxRecDepth 100000

set_option maxHeartbeats 4000000 in
theorem hasOwnE_x (d : EN) (w : World) (n0 : d.k ≠ 0) (n1 : d.k ≠ 1) (n2 : d.k ≠ 2) (n3 : d.k ≠ 3) (n4 : d.k ≠ 4) (n5 : d.k ≠ 5) (n6 : d.k ≠ 6) (n7 : d.k ≠ 7) : Calls Try.prog 46 #[.agg #[.int .i64 d.k, .int .i64 d.op, .slice d.v.a d.v.len d.v.cap, .int .i64 d.t.t.k, .slice d.t.t.a d.t.t.len d.t.t.cap, .int .i64 d.t.t.n, .int .i64 d.t.t.s, .slice d.ka d.n d.kc]] w (Tells (nodeOk d) w) := by
  have KC := fun W => kidCount_any d.k W
  have WI := fun W => within_any (d.n : Int) (kLo d.k) (kHi d.k) W
  have HNO : Hid (¬ nodeOk d) := fun hh => by have h := hh.1; unfold kOk at h; omega
  have m0 : (d.k == 0) = false := by simp [n0]
  have m1 : (d.k == 1) = false := by simp [n1]
  have m2 : (d.k == 2) = false := by simp [n2]
  have m3 : (d.k == 3) = false := by simp [n3]
  have m4 : (d.k == 4) = false := by simp [n4]
  have m5 : (d.k == 5) = false := by simp [n5]
  have m6 : (d.k == 6) = false := by simp [n6]
  have m7 : (d.k == 7) = false := by simp [n7]
  clear n0
  clear n1
  clear n2
  clear n3
  clear n4
  clear n5
  clear n6
  clear n7
  obtain ⟨lo, hlo⟩ : ∃ lo, lo = kLo d.k := ⟨_, rfl⟩
  obtain ⟨hi, hhi⟩ : ∃ hi, hi = kHi d.k := ⟨_, rfl⟩
  rw [← hlo, ← hhi] at KC WI
  clear hlo hhi
  obtain ⟨q, hq⟩ : ∃ q, q = (decide (lo ≤ (d.n : Int)) && decide ((d.n : Int) ≤ hi)) := ⟨_, rfl⟩
  rw [← hq] at WI
  clear hq
  go_enter Try.func46, Try.ntmps46
  go_wp2_with fail
  refine (KC _).mono ?_
  rintro e w1 ⟨rfl, rfl⟩
  clear KC
  go_wp2_with fail
  refine (WI _).mono ?_
  rintro e w1 ⟨rfl, rfl⟩
  clear WI
  cases q with
  | false =>
    go_wp2_with fail
    go_ret
    exact Tells.no HNO.out (bl_a _)
  | true =>
    go_wp2_with fail
    go_ret
    exact Tells.no HNO.out (bl_alloc (bl_a _) _)
theorem hasOwnE_any (d : EN) (w : World) (hv : BsF 0 w d.v) (ht : BsF 0 w d.t.sl) (hf : d.t.t.fits) (hn : d.n ≤ 1048576) : Calls Try.prog 46 #[.agg #[.int .i64 d.k, .int .i64 d.op, .slice d.v.a d.v.len d.v.cap, .int .i64 d.t.t.k, .slice d.t.t.a d.t.t.len d.t.t.cap, .int .i64 d.t.t.n, .int .i64 d.t.t.s, .slice d.ka d.n d.kc]] w (Tells (nodeOk d) w) := by
  by_cases n0 : d.k = 0
  · exact hasOwnE_0 d w n0 hv ht hf hn
  by_cases n1 : d.k = 1
  · exact hasOwnE_1 d w n1 hv ht hf hn
  by_cases n2 : d.k = 2
  · exact hasOwnE_2 d w n2 hv ht hf hn
  by_cases n3 : d.k = 3
  · exact hasOwnE_3 d w n3 hv ht hf hn
  by_cases n4 : d.k = 4
  · exact hasOwnE_4 d w n4 hv ht hf hn
  by_cases n5 : d.k = 5
  · exact hasOwnE_5 d w n5 hv ht hf hn
  by_cases n6 : d.k = 6
  · exact hasOwnE_6 d w n6 hv ht hf hn
  by_cases n7 : d.k = 7
  · exact hasOwnE_7 d w n7 hv ht hf hn
  exact hasOwnE_x d w n0 n1 n2 n3 n4 n5 n6 n7
end Go.Proofs.Ytidhcbjhggdncaa
