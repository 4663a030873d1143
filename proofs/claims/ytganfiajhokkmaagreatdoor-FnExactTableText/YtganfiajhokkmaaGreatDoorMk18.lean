/- Texts put together: TbG -/
import Derived.Test.YtganfiajhokkmaaGreatDoorMk17
/- TbG -/
namespace Go.Proofs.YtganfiajhokkmaaGreatDoor
open Go.RowKit Go.Deep
set_option maxRecDepth 100000

/-- What a cell shows as. -/
def cellTx (x : CB) : List Int := if x.has = true then x.t.t.show x.t.b ++ [32] else [45, 32]
/-- The variables' line, the first i of them. -/
def lineV (var : Nat → SL) : Nat → List Int
  | 0 => []
  | i + 1 => lineV var i ++ 63 :: ((var i).b ++ [32])
/-- A row's line, the first i cells. -/
def lineC (cel : Nat → CB) : Nat → List Int
  | 0 => []
  | i + 1 => lineC cel i ++ cellTx (cel i)
/-- The first i rows. -/
def rowsTx (row : Nat → SO) : Nat → List Int
  | 0 => []
  | i + 1 => rowsTx row i ++ (lineC (row i).cel (row i).n ++ [10])
/-- What is there ahead of row i. -/
def upTo (t : TL) (i : Nat) : List Int := lineV t.var t.vn ++ [10] ++ rowsTx t.row i
def tabTx (t : TL) : List Int := upTo t t.rn
theorem name_len {b : List Int} (h : nameOk b = true) : 1 ≤ b.length ∧ b.length ≤ 12 := by
  simp [nameOk] at h
  omega
theorem cellTx_len {x : CB} (h : cellOk x) : (cellTx x).length ≤ 65 := by
  unfold cellTx
  split
  · rename_i hh
    have h2 := (Tm.show_len (t := x.t.t) (b := x.t.b) (h.1 hh)).2
    simp
    omega
  · simp
theorem lineV_len {var : Nat → SL} (n : Nat) (h : ∀ i, i < n → varOk var i) : (lineV var n).length ≤ n * 14 := by
  induction n with
  | zero => simp [lineV]
  | succ n ih =>
    have h1 := ih (fun i hi => h i (by omega))
    have h2 := name_len (h n (by omega)).1
    simp only [lineV, List.length_append, List.length_cons, List.length_nil]
    omega
theorem lineC_len {cel : Nat → CB} (n : Nat) (h : ∀ i, i < n → cellOk (cel i)) : (lineC cel n).length ≤ n * 65 := by
  induction n with
  | zero => simp [lineC]
  | succ n ih =>
    have h1 := ih (fun i hi => h i (by omega))
    have h2 := cellTx_len (h n (by omega))
    simp only [lineC, List.length_append]
    omega
theorem rowsTx_len {row : Nat → SO} {m : Nat} (hm : m ≤ 8) (n : Nat) (h : ∀ i, i < n → solOk (row i) m) : (rowsTx row n).length ≤ n * 521 := by
  induction n with
  | zero => simp [rowsTx]
  | succ n ih =>
    have h1 := ih (fun i hi => h i (by omega))
    have h3 := h n (by omega)
    have h2 := lineC_len (row n).n h3.2
    have h4 := h3.1
    have h5 : (row n).n * 65 ≤ 520 := by rw [h4]; omega
    simp only [rowsTx, List.length_append, List.length_cons, List.length_nil]
    omega
theorem upTo_len {t : TL} (h : tabOk t) (k : Nat) (hk : k ≤ t.rn) : (upTo t k).length ≤ 113 + k * 521 := by
  have h1 := lineV_len t.vn h.1.2
  have h2 := h.1.1
  have h3 := rowsTx_len h2 k (fun i hi => h.2.2 i (by omega))
  unfold upTo
  simp only [List.length_append, List.length_cons, List.length_nil]
  omega
theorem lineV_byt {var : Nat → SL} (n : Nat) (h : ∀ i, i < n → Byt (var i).b) : Byt (lineV var n) := by
  induction n with
  | zero => exact Byt.nil
  | succ n ih => exact (ih fun i hi => h i (by omega)).app (Byt.cons (by omega) ((h n (by omega)).app (Byt.cons (by omega) Byt.nil)))
theorem cellTx_byt {x : CB} (h : Byt x.t.b) : Byt (cellTx x) := by
  unfold cellTx
  split
  · exact (showL_byt h).app (Byt.cons (by omega) Byt.nil)
  · exact Byt.cons (by omega) (Byt.cons (by omega) Byt.nil)
theorem lineC_byt {cel : Nat → CB} (n : Nat) (h : ∀ i, i < n → Byt (cel i).t.b) : Byt (lineC cel n) := by
  induction n with
  | zero => exact Byt.nil
  | succ n ih => exact (ih fun i hi => h i (by omega)).app (cellTx_byt (h n (by omega)))
theorem rowsTx_byt {row : Nat → SO} (n : Nat) (h : ∀ i, i < n → ∀ j, j < (row i).n → Byt ((row i).cel j).t.b) : Byt (rowsTx row n) := by
  induction n with
  | zero => exact Byt.nil
  | succ n ih => exact (ih fun i hi => h i (by omega)).app ((lineC_byt _ (h n (by omega))).app (Byt.cons (by omega) Byt.nil))
theorem tabTx_byt {t : TL} {w : World} (h : t.lies 0 w) : Byt (tabTx t) :=
  ((lineV_byt t.vn fun i hi => (h.2.1 i hi).1.byt).app (Byt.cons (by omega) Byt.nil)).app (rowsTx_byt t.rn fun i hi j hj => ((h.2.2.2.2.1 i hi).2.1 j hj).1.1.byt)
set_option maxHeartbeats 8000000 in
theorem l8text_any (t : TL) (w : World) (h : t.lies 0 w) (hok : tabOk t) : Calls Tryz.prog 17 #[.agg #[.slice t.va t.vn t.vc, .slice t.ra t.rn t.rc]] w fun e w' => TxRes w (tabTx t) e w' := by
  have HBY : Hid (Byt (tabTx t)) := tabTx_byt h
  have HLV : Hid (∀ k, k ≤ t.vn → (lineV t.var k).length ≤ k * 14) := fun k hk => lineV_len k (fun i hi => hok.1.2 i (by omega))
  have HLU : Hid (∀ k, k ≤ t.rn → (upTo t k).length ≤ 113 + k * 521) := fun k hk => upTo_len hok k hk
  have HLC : Hid (∀ k, k < t.rn → ∀ j, j ≤ (t.row k).n → (lineC (t.row k).cel j).length ≤ j * 65) := fun k hk j hj => lineC_len j (fun i hi => (hok.2.2 k hk).2 i (by omega))
  have HOK : Hid (tabOk t) := hok
  have hv8 := hok.1.1
  have hr3 := hok.2.1
  obtain ⟨hVR, hVL, hvn, hRR, hRL, hrn⟩ := h
  have HVR : Hid (KRow 0 w 1 t.va t.vn (fun i => (t.var i).cells)) := hVR
  have HRR : Hid (KRow 0 w 1 t.ra t.rn (fun i => (t.row i).cells)) := hRR
  have HVL : Hid (∀ i, i < t.vn → (t.var i).lies 0 w) := hVL
  have HRL : Hid (∀ i, i < t.rn → (t.row i).lies 0 w) := hRL
  have HX : Hid (∀ wr, Below (w.heap.size + 1) (w.alloc (.cells #[.slice t.va t.vn t.vc, .slice t.ra t.rn t.rc] 31)) wr → Box wr w.heap.size [.slice t.va t.vn t.vc, .slice t.ra t.rn t.rc]) := fun wr hb => ⟨Nat.lt_of_lt_of_le (Nat.lt_succ_self _) (Nat.le_trans (by simp) hb.size), fun c u hu => (hb.cell (p := ⟨w.heap.size, c, none⟩) (Nat.lt_succ_self _)).trans ((Box.new w #[.slice t.va t.vn t.vc, .slice t.ra t.rn t.rc] 31 (0, 0)).2 c u hu)⟩
  have HW : Hid (∀ wr, Below (w.heap.size + 1) (w.alloc (.cells #[.slice t.va t.vn t.vc, .slice t.ra t.rn t.rc] 31)) wr → Below w.heap.size w wr) := fun wr h => (bl_a (w := w) _).trans (h.mono (Nat.le_succ _))
  have HSZ : Hid (∀ wr, Below (w.heap.size + 1) (w.alloc (.cells #[.slice t.va t.vn t.vc, .slice t.ra t.rn t.rc] 31)) wr → (w.heap.size + 1) ≤ wr.heap.size) := fun wr h => Nat.le_trans (by simp) h.size
  clear hVR hVL hRR hRL hok
  go_enter Tryz.func17, Tryz.ntmps17
  go_wp2_with fail
  go_loopw [3, 4] (fun x i wr => ∃ (k N : Nat) (v : Value), k ≤ t.vn ∧ i = .int .i64 k ∧ v = x ∧ Hid (Own8 wr (w.heap.size + 1) v N (lineV t.var k)) ∧ Hid (Below (w.heap.size + 1) (w.alloc (.cells #[.slice t.va t.vn t.vc, .slice t.ra t.rn t.rc] 31)) wr)) (fun _ i _ => t.vn - (intOf i).toNat)
  case atStart => exact ⟨0, 0, _, Nat.zero_le _, rfl, rfl, Own8.nil _ _, Below.refl _ _⟩
  case round =>
    obtain ⟨k, N, v, hk, rfl, rfl, HO, HB⟩ := hrel
    have hN : N ≤ 112 := by
      have e1 := HO.out.len
      have e2 := HLV.out k hk
      omega
    have x0 := (HX.out wr HB.out).2 0 _ rfl
    by_cases hlk : k < t.vn
    · have hlkz : (k : Int) < (t.vn : Int) := by omega
      obtain ⟨b, off, ea, _, hlt, hc⟩ := HVR.out.resolve_left (by omega)
      have hy : wr.cell? ⟨b, off + k, none⟩ = some (.slice (t.var k).a (t.var k).len (t.var k).cap) := by
        have h1 := hc k hlk 0 _ rfl
        rw [Nat.mul_one] at h1
        exact ((HW.out wr HB.out).cell (p := ⟨b, off + k, none⟩) hlt).trans h1
      have hvx := (HVL.out k hlk)
      have hnm := name_len (HOK.out.1.2 k hlk).1
      have hxl : (t.var k).b.length = (t.var k).len := hvx.1.1
      have SV := l4sayVar_any v N (w.heap.size + 1) (lineV t.var k) (t.var k) w wr HO.out hvx (HW.out wr HB.out) (Nat.le_succ _) (HSZ.out wr HB.out) (by omega) (by omega)
      rw [ea] at x0
      clear hc hvx ea
      go_wp2_with fail
      refine SV.mono ?_
      rintro e w2 ⟨v2, n2, rfl, hO2, hb2⟩
      have HO2 : Hid (Own8 w2 (w.heap.size + 1) v2 n2 (lineV t.var (k + 1))) := hO2
      have HB2 : Hid (Below (w.heap.size + 1) (w.alloc (.cells #[.slice t.va t.vn t.vc, .slice t.ra t.rn t.rc] 31)) w2) := HB.out.trans hb2
      clear SV hO2 hb2 x0 hy HO HB
      go_wp2_with fail
      go_roundw
      case rel => exact ⟨k + 1, n2, v2, by omega, by go_num, rfl, HO2, HB2⟩
      case measure => simp [intOf]; omega
    · obtain rfl : k = t.vn := by omega
      have hlkz : ¬ (t.vn : Int) < (t.vn : Int) := by omega
      have HO1 := hidQ ((HO.out.below (bl_a (.cells #[.int .u8 10] 5))).1)
      have HN1 := hidQ (one_news wr 10)
      have hB1 : (w.heap.size + 1) ≤ (wr.alloc (.cells #[.int .u8 10] 5)).heap.size := Nat.le_trans (HSZ.out wr HB.out) (by simp)
      have HB1 : Hid (Below (w.heap.size + 1) (w.alloc (.cells #[.slice t.va t.vn t.vc, .slice t.ra t.rn t.rc] 31)) (wr.alloc (.cells #[.int .u8 10] 5))) := HB.out.trans ((bl_a (w := wr) _).mono (HSZ.out wr HB.out))
      clear HO
      go_wp2_with (refine app8 rfl (.tmp 22) (.tmp 23) rfl (w.heap.size + 1) v N (lineV t.var t.vn) rfl HO1 ⟨wr.heap.size, 0, none⟩ 1 1 [10] rfl rfl HN1 (by omega) (N + 1) rfl (lineV t.var t.vn ++ [10]) rfl (by omega) hB1 ?_; intro g2 c2 w2 HR2 _ _ HB2x; have HB2 : Hid (Below (w.heap.size + 1) (w.alloc (.cells #[.slice t.va t.vn t.vc, .slice t.ra t.rn t.rc] 31)) w2) := HB1.out.trans HB2x.out; clear HB2x HO1 HN1 hB1 HB1 x0 HB)
      have HO2 : Hid (Own8 w2 (w.heap.size + 1) (.slice (some ⟨g2, 0, none⟩) (N + 1) c2) (N + 1) (upTo t 0)) := (show Own8 _ _ _ _ _ by have h := HR2.out.own8; simpa [upTo, rowsTx] using h)
      clear HR2
      go_loopw [3, 5] (fun x i wr => ∃ (k N : Nat) (v : Value), k ≤ t.rn ∧ i = .int .i64 k ∧ v = x ∧ Hid (Own8 wr (w.heap.size + 1) v N (upTo t k)) ∧ Hid (Below (w.heap.size + 1) (w.alloc (.cells #[.slice t.va t.vn t.vc, .slice t.ra t.rn t.rc] 31)) wr)) (fun _ i _ => t.rn - (intOf i).toNat)
      case atStart => exact ⟨0, N + 1, _, Nat.zero_le _, rfl, rfl, HO2, HB2⟩
      case round =>
        clear HO2 HB2
        obtain ⟨k, N, v, hk, rfl, rfl, HO, HB⟩ := hrel
        have hN : N ≤ 157000 := by
          have e1 := HO.out.len
          have e2 := HLU.out k hk
          omega
        by_cases hlk : k < t.rn
        rotate_left
        · obtain rfl : k = t.rn := by omega
          have hlkz : ¬ (t.rn : Int) < (t.rn : Int) := by omega
          have x1 := (HX.out wr HB.out).2 1 _ rfl
          obtain ⟨a', cp, rfl, hnw⟩ := HO.out.nw HBY.out (by omega)
          have HNW : Hid (Nw wr (w.heap.size + 1) a' N (tabTx t)) := hnw
          have HLN : Hid ((tabTx t).length = N) := HO.out.len
          clear hnw HO
          go_wp2_with fail
          go_ret
          refine ⟨a', cp, by rw [HLN.out]; rfl, ?_, HW.out _ HB.out⟩
          rw [HLN.out]
          exact HNW.out.mono (Nat.le_succ _)
        have hlkz : (k : Int) < (t.rn : Int) := by omega
        obtain ⟨br, offr, ear, _, hltr, hcr⟩ := HRR.out.resolve_left (by omega)
        have HRC : Hid (∀ wr, Below (w.heap.size + 1) (w.alloc (.cells #[.slice t.va t.vn t.vc, .slice t.ra t.rn t.rc] 31)) wr → wr.cell? ⟨w.heap.size, 1, none⟩ = some (.slice (some ⟨br, offr, none⟩) t.rn t.rc) ∧ wr.cell? ⟨br, offr + k, none⟩ = some (.slice (t.row k).a (t.row k).n (t.row k).cap)) := fun wr hb => by
          have h1 := hcr k hlk 0 _ rfl
          rw [Nat.mul_one] at h1
          exact ⟨by rw [← ear]; exact (HX.out wr hb).2 1 _ rfl, ((HW.out wr hb).cell (p := ⟨br, offr + k, none⟩) hltr).trans h1⟩
        have x1 : wr.cell? ⟨w.heap.size, 1, none⟩ = some (.slice (some ⟨br, offr, none⟩) t.rn t.rc) := (HRC.out wr HB.out).1
        have hRn : (t.row k).n ≤ 8 := by rw [(HOK.out.2.2 k hlk).1]; exact hv8
        clear hcr ear
        go_wp2_with fail
        clear x1
        go_loopw [3, 6] (fun x i wr => ∃ (j N : Nat) (v : Value), j ≤ (t.row k).n ∧ i = .int .i64 j ∧ v = x ∧ Hid (Own8 wr (w.heap.size + 1) v N (upTo t k ++ lineC (t.row k).cel j)) ∧ Hid (Below (w.heap.size + 1) (w.alloc (.cells #[.slice t.va t.vn t.vc, .slice t.ra t.rn t.rc] 31)) wr)) (fun _ i _ => (t.row k).n - (intOf i).toNat)
        case atStart => exact ⟨0, N, v, Nat.zero_le _, rfl, rfl, (show Own8 _ _ _ _ _ by have h := HO.out; simpa [lineC] using h), HB⟩
        case round =>
          clear HO HB hN
          obtain ⟨j, N, v, hj, rfl, rfl, HO, HB⟩ := hrel
          have hN : N ≤ 157600 := by
            have e1 := HO.out.len
            have e2 := HLU.out k hk
            have e3 := HLC.out k hlk j hj
            rw [List.length_append] at e1
            omega
          obtain ⟨x1, x2⟩ := HRC.out wr HB.out
          by_cases hlj : j < (t.row k).n
          rotate_left
          · obtain rfl : j = (t.row k).n := by omega
            have hljz : ¬ ((t.row k).n : Int) < ((t.row k).n : Int) := by omega
            have HO1 := hidQ ((HO.out.below (bl_a (.cells #[.int .u8 10] 5))).1)
            have HN1 := hidQ (one_news wr 10)
            have hB1 : (w.heap.size + 1) ≤ (wr.alloc (.cells #[.int .u8 10] 5)).heap.size := Nat.le_trans (HSZ.out wr HB.out) (by simp)
            have HB1 : Hid (Below (w.heap.size + 1) (w.alloc (.cells #[.slice t.va t.vn t.vc, .slice t.ra t.rn t.rc] 31)) (wr.alloc (.cells #[.int .u8 10] 5))) := HB.out.trans ((bl_a (w := wr) _).mono (HSZ.out wr HB.out))
            clear HO
            go_wp2_with (refine app8 rfl (.tmp 64) (.tmp 65) rfl (w.heap.size + 1) v N (upTo t k ++ lineC (t.row k).cel (t.row k).n) rfl HO1 ⟨wr.heap.size, 0, none⟩ 1 1 [10] rfl rfl HN1 (by omega) (N + 1) rfl (upTo t k ++ lineC (t.row k).cel (t.row k).n ++ [10]) rfl (by omega) hB1 ?_; intro g2 c2 w2 HR2 _ _ HB2x; have HB2 : Hid (Below (w.heap.size + 1) (w.alloc (.cells #[.slice t.va t.vn t.vc, .slice t.ra t.rn t.rc] 31)) w2) := HB1.out.trans HB2x.out; clear HB2x HO1 HN1 hB1 HB1 x1 x2 HB)
            have HO2 : Hid (Own8 w2 (w.heap.size + 1) (.slice (some ⟨g2, 0, none⟩) (N + 1) c2) (N + 1) (upTo t (k + 1))) := (show Own8 _ _ _ _ _ by have h := HR2.out.own8; simpa [upTo, rowsTx, List.append_assoc] using h)
            go_roundw
            case rel => exact ⟨k + 1, N + 1, _, by omega, by go_num, rfl, HO2, HB2⟩
            case measure => simp [intOf]; omega
          have hljz : (j : Int) < ((t.row k).n : Int) := by omega
          obtain ⟨bc, offc, eac, _, hltc, hcc⟩ := (HRL.out k hlk).1.resolve_left (by omega)
          have hcl := (HRL.out k hlk).2.1 j hlj
          have hco : cellOk ((t.row k).cel j) := (HOK.out.2.2 k hlk).2 j hlj
          have hcx : ∀ c u, (((t.row k).cel j).cells)[c]? = some u → wr.cell? ⟨bc, offc + j * 5 + c, none⟩ = some u := fun c u hu => ((HW.out wr HB.out).cell (p := ⟨bc, offc + j * 5 + c, none⟩) hltc).trans (hcc j hlj c u hu)
          have y0 := hcx 0 _ rfl
          have y1 := hcx 1 _ rfl
          have y2 := hcx 2 _ rfl
          have y3 := hcx 3 _ rfl
          have y4 := hcx 4 _ rfl
          simp only [Nat.add_zero] at y0
          rw [eac] at x2
          have HSTEP : Hid (lineC (t.row k).cel (j + 1) = lineC (t.row k).cel j ++ cellTx ((t.row k).cel j)) := rfl
          clear hcx hcc eac
          cases hh : ((t.row k).cel j).has with
          | false =>
            rw [hh] at y0
            have HCT : Hid (cellTx ((t.row k).cel j) = [45, 32]) := (show _ = _ by unfold cellTx; rw [hh]; rfl)
            have LW := fun o => l4word_any v N (w.heap.size + 1) (upTo t k ++ lineC (t.row k).cel j) ⟨#[45]⟩ (wr.alloc o) (HO.out.below (bl_a o)) (Nat.le_trans (HSZ.out wr HB.out) (by simp)) (by decide) (by have : (⟨#[45]⟩ : ByteArray).size = 1 := rfl; omega)
            have HBo : Hid (∀ o, Below (w.heap.size + 1) (w.alloc (.cells #[.slice t.va t.vn t.vc, .slice t.ra t.rn t.rc] 31)) (wr.alloc o)) := fun o => HB.out.trans ((bl_a (w := wr) _).mono (HSZ.out wr HB.out))
            clear hh hcl hco HO
            go_wp2_with fail
            refine (LW _).mono ?_
            rintro e w2 ⟨v2, n2, rfl, hO2, hb2⟩
            have HO2 : Hid (Own8 w2 (w.heap.size + 1) v2 n2 (upTo t k ++ lineC (t.row k).cel (j + 1))) := (show Own8 _ _ _ _ _ by rw [HSTEP.out, HCT.out, ← List.append_assoc]; exact hO2)
            have HB2 : Hid (Below (w.heap.size + 1) (w.alloc (.cells #[.slice t.va t.vn t.vc, .slice t.ra t.rn t.rc] 31)) w2) := (HBo.out _).trans hb2
            clear LW hO2 hb2 x1 x2 y0 y1 y2 y3 y4 HB HBo
            go_wp2_with fail
            go_roundw
            case rel => exact ⟨j + 1, n2, v2, by omega, by go_num, rfl, HO2, HB2⟩
            case measure => simp [intOf]; omega
          | true =>
            rw [hh] at y0
            have hto : termOk ((t.row k).cel j).t.t.k ((t.row k).cel j).t.b ((t.row k).cel j).t.t.n ((t.row k).cel j).t.t.s = true := hco.1 hh
            have HCT : Hid (cellTx ((t.row k).cel j) = ((t.row k).cel j).t.t.show ((t.row k).cel j).t.b ++ [32]) := (show _ = _ by unfold cellTx; rw [hh]; rfl)
            have hsl := Tm.show_len (t := ((t.row k).cel j).t.t) (b := ((t.row k).cel j).t.b) hto
            have SH : ∀ o, Calls Tryz.prog 38 #[.agg #[.int .i64 ((t.row k).cel j).t.t.k, .slice ((t.row k).cel j).t.t.a ((t.row k).cel j).t.t.len ((t.row k).cel j).t.t.cap, .int .i64 ((t.row k).cel j).t.t.n, .int .i64 ((t.row k).cel j).t.t.s]] (wr.alloc o) fun e w' => DigRes (wr.alloc o) (((t.row k).cel j).t.t.show ((t.row k).cel j).t.b) e w' := fun o => l1show_any ((t.row k).cel j).t.t.k ((t.row k).cel j).t.t.n ((t.row k).cel j).t.t.s ((t.row k).cel j).t.t.a ((t.row k).cel j).t.t.len ((t.row k).cel j).t.t.cap ((t.row k).cel j).t.b (wr.alloc o) ((hcl.1.1.below (HW.out wr HB.out)).below (bl_a o)) hto
            have HBo : Hid (∀ o, Below (w.heap.size + 1) (w.alloc (.cells #[.slice t.va t.vn t.vc, .slice t.ra t.rn t.rc] 31)) (wr.alloc o)) := fun o => HB.out.trans ((bl_a (w := wr) _).mono (HSZ.out wr HB.out))
            have HOo : Hid (∀ o, Own8 (wr.alloc o) (w.heap.size + 1) v N (upTo t k ++ lineC (t.row k).cel j)) := fun o => HO.out.below (bl_a o)
            generalize ((t.row k).cel j).t.t.show ((t.row k).cel j).t.b = L1 at *
            clear hh hcl hco HO hto
            go_wp2_with fail
            refine (SH _).mono ?_
            rintro e w2 ⟨g2, c2, rfl, hr2, hb2⟩
            have HB2 : Hid (Below (w.heap.size + 1) (w.alloc (.cells #[.slice t.va t.vn t.vc, .slice t.ra t.rn t.rc] 31)) w2) := (HBo.out _).trans (hb2.mono (HSZ.out _ (HBo.out _)))
            have HO2 := hidQ (((HOo.out _).below hb2).1)
            have HN2 : Hid (∀ j u, (L1.map (Value.int .u8))[j]? = some u → w2.cell? ((⟨g2, 0, none⟩ : Addr).add j) = some u) := hr2.news
            have hs2 := HSZ.out _ HB2.out
            clear SH hr2 hb2 HBo HOo x1 x2 y0 y1 y2 y3 y4 HB
            go_wp2_with (first
              | (refine app8 rfl (.tmp 57) (.tmp 60) rfl (w.heap.size + 1) v N (upTo t k ++ lineC (t.row k).cel j) rfl HO2 ⟨g2, 0, none⟩ L1.length _ L1 rfl rfl HN2 (by omega) (N + L1.length) rfl ((upTo t k ++ lineC (t.row k).cel j) ++ L1) rfl (by omega) hs2 ?_; intro g3 c3 w3 HR3 _ _ HB3x; have HB3 : Hid (Below (w.heap.size + 1) (w.alloc (.cells #[.slice t.va t.vn t.vc, .slice t.ra t.rn t.rc] 31)) w3) := HB2.out.trans HB3x.out; have HO3 := hidQ ((HR3.out.below (bl_a (.cells #[.int .u8 32] 5))).1); have HN3 := hidQ (one_news w3 32); have hB3 : (w.heap.size + 1) ≤ (w3.alloc (.cells #[.int .u8 32] 5)).heap.size := Nat.le_trans (HSZ.out w3 HB3.out) (by simp); have HB3a : Hid (Below (w.heap.size + 1) (w.alloc (.cells #[.slice t.va t.vn t.vc, .slice t.ra t.rn t.rc] 31)) (w3.alloc (.cells #[.int .u8 32] 5))) := HB3.out.trans ((bl_a (w := w3) _).mono (HSZ.out w3 HB3.out)); clear HB3x HO2 HN2 hs2 HB2 HB3)
              | (refine app8 rfl (.tmp 61) (.tmp 62) rfl (w.heap.size + 1) (.slice (some ⟨g3, 0, none⟩) (N + L1.length) c3) (N + L1.length) ((upTo t k ++ lineC (t.row k).cel j) ++ L1) rfl HO3 ⟨w3.heap.size, 0, none⟩ 1 1 [32] rfl rfl HN3 (by omega) (N + L1.length + 1) rfl ((upTo t k ++ lineC (t.row k).cel j) ++ L1 ++ [32]) rfl (by omega) hB3 ?_; intro g4 c4 w4 HR4 _ _ HB4x; have HB4 : Hid (Below (w.heap.size + 1) (w.alloc (.cells #[.slice t.va t.vn t.vc, .slice t.ra t.rn t.rc] 31)) w4) := HB3a.out.trans HB4x.out; clear HB4x HO3 HN3 hB3 HB3a HR3))
            have HO4 : Hid (Own8 w4 (w.heap.size + 1) (.slice (some ⟨g4, 0, none⟩) (N + L1.length + 1) c4) (N + L1.length + 1) (upTo t k ++ lineC (t.row k).cel (j + 1))) := (show Own8 _ _ _ _ _ by have h := HR4.out.own8; rw [HSTEP.out, HCT.out]; simpa [List.append_assoc] using h)
            go_roundw
            case rel => exact ⟨j + 1, N + L1.length + 1, _, by omega, by go_num, rfl, HO4, HB4⟩
            case measure => simp [intOf]; omega
end Go.Proofs.YtganfiajhokkmaaGreatDoor
