/- The law FnExactShow, walked. -/
import Derived.Test.YtmpiadlmkeimdaaDoorShwJ
import Derived.Deep.RegionHeld3
namespace Go.Proofs.YtmpiadlmkeimdaaDoor
open Go.RowKit Go.Deep
set_option maxRecDepth 100000

/-- A text that is marked from k on. -/
def Marked (w : World) (a : Option Addr) (len : Nat) (k : Int) : Prop := len = 0 ∨ ∃ g, a = some ⟨g, 0, none⟩ ∧ g < w.heap.size ∧ ∀ i, i < len → w.cell? ⟨g, i, none⟩ = some (.int .u8 ((k + (i : Nat)) % 256))
theorem Marked.below {w w' : World} {a : Option Addr} {len : Nat} {k : Int} (h : Marked w a len k) (hb : Below w.heap.size w w') : Marked w' a len k := by
  rcases h with h | ⟨g, ha, hl, hc⟩
  · exact .inl h
  · exact .inr ⟨g, ha, Nat.lt_of_lt_of_le hl hb.size, fun i hi => (hb.cell (p := ⟨g, i, none⟩) hl).trans (hc i hi)⟩
theorem Nw.but {w w' : World} {B g len : Nat} {a : Option Addr} {bs : List Int} (h : Nw w B a len bs) (hb : But g w w') (hg : g < B) : Nw w' B a len bs := by
  rcases h with h | ⟨g', ha, hB, ho⟩
  · exact .inl h
  · exact .inr ⟨g', ha, hB, ho.but hb (by omega)⟩

theorem mark_zero (a : Option Addr) (cap : Nat) (k : Int) (w : World) : Calls Tryd.prog 12 #[.slice a 0 cap, .int .i64 k] w fun e w' => e = .returned (.int .i64 k) ∧ w' = w := by
  go_enter Tryd.func12, Tryd.ntmps12
  go_wp2
  refine wp_loop_rounds 1 ?_
  rw [rounds_succ]
  go_wp2
  go_ret
  exact ⟨rfl, rfl⟩
/-- What marking a new text leaves. -/
def MarkRes (w : World) (B : Nat) (a : Option Addr) (len : Nat) (k : Int) (e : Ending) (w' : World) : Prop := e = .returned (.int .i64 (k + len)) ∧ Marked w' a len k ∧ Below B w w' ∧ w'.heap.size = w.heap.size
theorem mark_nw (a : Option Addr) (len cap B : Nat) (bs : List Int) (k : Int) (w : World) (h : Nw w B a len bs) (hk : 0 ≤ k) (hk2 : k ≤ 4194304) (hlen : len ≤ 1048576) :
    Calls Tryd.prog 12 #[.slice a len cap, .int .i64 k] w fun e w' => MarkRes w B a len k e w' := by
  rcases h with ⟨rfl, rfl, rfl⟩ | ⟨g, rfl, hB, ho⟩
  · refine (mark_zero none cap k w).mono ?_
    rintro e w' ⟨rfl, rfl⟩
    exact ⟨by simp, .inl rfl, Below.refl _ _, rfl⟩
  · refine (markByteS_own g len cap k w hk hk2 hlen ho.2.2.1 ho.2.2.2).mono ?_
    rintro e w' ⟨rfl, hb, hc, _⟩
    exact ⟨rfl, .inr ⟨g, rfl, by rw [hb.size]; exact ho.2.1, hc⟩, hb.below hB, hb.size⟩

theorem held_any (a : Option Addr) (len cap : Nat) (k : Int) (w : World) (h : Marked w a len k) (hk : 0 ≤ k) (hk2 : k ≤ 4194304) (hlen : len ≤ 1048576) :
    Calls Tryd.prog 13 #[.slice a len cap, .int .i64 k] w fun e w' => e = .returned (.int .i64 (k + len)) ∧ w' = w := by
  rcases h with rfl | ⟨g, rfl, hl, hc⟩
  · go_enter Tryd.func13, Tryd.ntmps13
    go_wp2
    refine wp_loop_rounds 1 ?_
    rw [rounds_succ]
    go_wp2
    go_ret
    exact ⟨by simp, rfl⟩
  · go_enter Tryd.func13, Tryd.ntmps13
    go_wp2
    go_loop [1, 5] (fun q i => ∃ j : Nat, j ≤ len ∧ i = .int .i64 j ∧ q = .int .i64 (k + j)) (fun _ i => len - (intOf i).toNat)
    case atStart => exact ⟨0, Nat.zero_le _, rfl, by simp⟩
    case round =>
      obtain ⟨j, hj, rfl, rfl⟩ := hrel
      by_cases hlt : j < len
      · have hx := hc j hlt
        have hw : IntKind.u8.wrap (k + (j : Int)) = (k + (j : Int)) % 256 := by rw [IntKind.wrap_u8]
        clear hc
        go_wp2
        go_round
        case rel => exact ⟨j + 1, by omega, by go_num, by go_num⟩
        case measure => simp [intOf]; omega
      · obtain rfl : j = len := by omega
        go_wp2
        go_ret
        exact ⟨rfl, rfl⟩
theorem bl_drewN {w : World} (q : Nat) : Below w.heap.size w (w.drewN q) := below_drewN (Below.refl _ _) q
theorem cell_drewS {w : World} : Below w.heap.size w w.drew := Below.drew (Below.refl _ _)

set_option maxHeartbeats 2000000 in
theorem walkShow (k n s : Int) (a : Option Addr) (len cap : Nat) (bs : List Int) (w : World) (hB : len ≤ 1048576 → Bs w a len bs) (hlm : len ≤ 9223372036854775807)
    (h1 : -9223372036854775808 ≤ n) (h2 : n ≤ 9223372036854775807) (h3 : -9223372036854775808 ≤ s) (h4 : s ≤ 9223372036854775807) (ht : Tab w) :
    Calls Tryd.prog 3 #[.agg #[.int .i64 k, .slice a len cap, .int .i64 n, .int .i64 s]] w fun e w' => e = .returned (.bool true) ∧ Below w.heap.size w w' := by
  by_cases hle : len ≤ 1048576
  · have hB := hB hle
    have hz : leftOf 1048576 len = 1048576 - (len : Int) := by unfold leftOf; rw [if_neg (by omega)]
    have Sp : ∀ (x : Option Addr) (w : World), Bs w x len bs → Calls Tryd.prog 6 #[.agg #[.int .i64 k, .slice x len len, .int .i64 n, .int .i64 s]] w fun e w' => TxRes w (shownL k n s bs) e w' := fun x w h => specShow_any k n s x len len bs w h h1 h2
    have Im : ∀ (x : Option Addr) (w : World), Bs w x len bs → Tab w → Calls Tryd.prog 8 #[.agg #[.int .i64 k, .slice x len len, .int .i64 n, .int .i64 s]] w fun e w' => TxRes w (shownL k n s bs) e w' := fun x w h t => implShow_any k n s x len len bs w h h1 h2 h3 h4 t
    have hL := shownL_len k n s bs
    generalize shownL k n s bs = L at *
    have uA : ∀ w, Bs w a len bs → Calls Tryd.prog 7 #[.agg #[.int .i64 k, .slice a len cap, .int .i64 n, .int .i64 s]] w fun e w' =>
      ∃ g, e = .returned (.agg #[.int .i64 k, .slice (some ⟨g, 0, none⟩) len len, .int .i64 n, .int .i64 s]) ∧ OwnT w' g len bs ∧ w.heap.size ≤ g ∧ Below w.heap.size w w' := fun w h => toTerm_new k n s a len cap bs w h
    go_enter Tryd.func3, Tryd.ntmps3
    go_wp2_with (go_at_call 5; refine (szTerm_any k n s a len cap 1048576 _ (by omega) (by omega) hlm).mono ?_; rintro e w1 ⟨rfl, hb1⟩; have hA1 := (At4.new w _ _ _ _ _).below hb1; have hB1 := hB.below (bl_trans (bl_a _) hb1); have hT1 := ht.below (bl_trans (bl_a _) hb1); have hW1 := bl_trans (bl_a _) hb1; clear hb1; obtain ⟨c0, c1, c2, c3, c4⟩ := id hA1)
    refine (uA _ hB1).mono ?_
    rintro e w2 ⟨g2, rfl, hO2, _, hb2⟩
    clear c0 c1 c2 c3 c4
    go_wp2_with fail
    refine (Sp _ _ hO2.1).mono ?_
    rintro e w3 ⟨a0, cp0, rfl, hN3, hb3⟩
    have hb := bl_trans hb2 hb3
    have HA3 : Hid (At4 w3 w.heap.size (.int .i64 k) (.slice a len cap) (.int .i64 n) (.int .i64 s)) := hA1.below hb
    have HB3 : Hid (Bs w3 a len bs) := hB1.below hb
    have HT3 : Hid (Tab w3) := hT1.below hb
    have HV3 : Hid (Bs w3 a0 L.length L) := hN3.bs
    have HW3 : Hid (Below w.heap.size w w3) := bl_trans hW1 hb
    clear hb hb2 hb3 hO2 hN3 hA1 hB1 hT1 hW1 Sp hB ht
    obtain ⟨c0, c1, c2, c3, c4⟩ := id HA3.out
    go_wp2_with fail
    refine (uA _ HB3.out).mono ?_
    rintro e w4 ⟨g4, rfl, hO4, hg4, hb4⟩
    have HD5 : Hid (Below w3.heap.size w3 (w4.alloc (.cells #[.int .i64 k, .slice (some ⟨g4, 0, none⟩) len len, .int .i64 n, .int .i64 s] 27))) := bl_alloc hb4 _
    have HX5 : Hid (At4 (w4.alloc (.cells #[.int .i64 k, .slice (some ⟨g4, 0, none⟩) len len, .int .i64 n, .int .i64 s] 27)) w4.heap.size (.int .i64 k) (.slice (some ⟨g4, 0, none⟩) len len) (.int .i64 n) (.int .i64 s)) := At4.new w4 _ _ _ _ _
    have HO5 : Hid (OwnT (w4.alloc (.cells #[.int .i64 k, .slice (some ⟨g4, 0, none⟩) len len, .int .i64 n, .int .i64 s] 27)) g4 len bs) := hO4.below (bl_a _)
    have hg4' : g4 < w4.heap.size := hO4.2.1
    have HT5 : Hid (Tab (w4.alloc (.cells #[.int .i64 k, .slice (some ⟨g4, 0, none⟩) len len, .int .i64 n, .int .i64 s] 27))) := HT3.out.below HD5.out
    have HS : Hid ((w4.alloc (.cells #[.int .i64 k, .slice (some ⟨g4, 0, none⟩) len len, .int .i64 n, .int .i64 s] 27)).heap.size = w4.heap.size + 1) := by show _ = _; simp
    clear hO4 hb4 c0 c1 c2 c3 c4
    go_wp2_with fail
    refine (Im _ _ HO5.out.1 HT5.out).mono ?_
    rintro e w6 ⟨ag, cg, rfl, hN6, hb6⟩
    have HG6 : Hid (Nw w6 (w4.heap.size + 1) ag L.length L) := by rw [HS.out] at hN6; exact hN6
    have hb6' : Below w3.heap.size w3 w6 := bl_trans HD5.out hb6
    have HX6 : Hid (At4 w6 w4.heap.size (.int .i64 k) (.slice (some ⟨g4, 0, none⟩) len len) (.int .i64 n) (.int .i64 s)) := HX5.out.below hb6
    have HO6 : Hid (OwnT w6 g4 len bs) := HO5.out.below hb6
    have HD6 : Hid (Below w3.heap.size w3 w6) := hb6'
    have hs6 : w4.heap.size + 1 ≤ w6.heap.size := by have := hb6.size; rw [HS.out] at this; exact this
    clear hN6 hb6 hb6' HD5 HX5 HO5 HT5 HS
    go_wp2_with fail
    refine (eqByteS_any ag a0 L.length L.length cg cp0 L L _ HG6.out.bs (HV3.out.below HD6.out)).mono ?_
    rintro e w7 ⟨rfl, q7, rfl⟩
    have HG7 : Hid (Nw (w6.drewN q7) (w4.heap.size + 1) ag L.length L) := HG6.out.below (bl_drewN q7)
    have HX7 : At4 (w6.drewN q7) w4.heap.size (.int .i64 k) (.slice (some ⟨g4, 0, none⟩) len len) (.int .i64 n) (.int .i64 s) := HX6.out.below (bl_drewN q7)
    have HO7 : Hid (OwnT (w6.drewN q7) g4 len bs) := HO6.out.below (bl_drewN q7)
    have HD7 : Hid (Below w3.heap.size w3 (w6.drewN q7)) := bl_trans HD6.out (bl_drewN q7)
    have hs7 : w4.heap.size + 1 ≤ (w6.drewN q7).heap.size := Nat.le_trans hs6 (bl_drewN q7).size
    clear HG6 HX6 HO6 HD6 hs6
    generalize w6.drewN q7 = w7 at *
    have hA7 := HA3.out.below HD7.out
    have hB7 := HB3.out.below HD7.out
    have HB7 : Hid (Bs w7 a len bs) := hB7
    clear hB7
    obtain ⟨p0, p1, p2, p3, p4⟩ := id HX7
    obtain ⟨y0, y1, y2, y3, y4⟩ := id hA7
    go_wp2_with fail
    go_region_held3 (fun w' => w'.cell? ⟨w4.heap.size, 0, none⟩ = some (.int .i64 k) ∧ w'.cell? ⟨w4.heap.size, 1, none⟩ = some (.slice (some ⟨g4, 0, none⟩) len len) ∧ w'.cell? ⟨w4.heap.size, 2, none⟩ = some (.int .i64 n) ∧ w'.cell? ⟨w4.heap.size, 3, none⟩ = some (.int .i64 s) ∧ w'.cell? ⟨w.heap.size, 0, none⟩ = some (.int .i64 k) ∧ w'.cell? ⟨w.heap.size, 1, none⟩ = some (.slice a len cap) ∧ w'.cell? ⟨w.heap.size, 2, none⟩ = some (.int .i64 n) ∧ w'.cell? ⟨w.heap.size, 3, none⟩ = some (.int .i64 s)) (simp [*, go_sem])
      (first
        | (go_at_call 7; refine (uA _ (HB7.out.below cell_drewS)).mono ?_; rintro e wa ⟨ga, rfl, hGa, _, hba⟩; have hba := bl_trans cell_drewS hba; have hAa := hA7.below hba; have hTa := HO7.out.below hba; have hPa := HX7.below hba; obtain ⟨p0, p1, p2, p3, p4⟩ := id hPa; obtain ⟨y0, y1, y2, y3, y4⟩ := id hAa)
        | (go_at_call 10; refine (eqTerm_any k n s k n s _ _ len len len len bs bs _ hTa.1 hGa.1).mono ?_; rintro e w10 ⟨rfl, hbb⟩; have hb10 := bl_trans hba hbb; have hAb := hAa.below hbb; have hPb := hPa.below hbb; obtain ⟨p0, p1, p2, p3, p4⟩ := id hPb; obtain ⟨y0, y1, y2, y3, y4⟩ := id hAb))
    clear p0 p1 p2 p3 p4 y0 y1 y2 y3 y4
    have HG10 : Hid (Nw w10 (w4.heap.size + 1) ag L.length L) := HG7.out.below hb10
    have HX10 := HX7.below hb10
    have hO10 := HO7.out.below hb10
    have HD10 : Hid (Below w3.heap.size w3 w10) := bl_trans HD7.out hb10
    have hs10 : w4.heap.size + 1 ≤ w10.heap.size := Nat.le_trans hs7 hb10.size
    clear hGa hba hAa hTa hPa hbb hAb hPb hb10 HG7 HX7 HO7 HD7 hs7 hA7 HB7
    obtain ⟨p0, p1, p2, p3, p4⟩ := id HX10
    go_wp2_with fail
    refine (markTerm_own k n s g4 len len 1 _ (by omega) (by omega) hle hO10.2.1 hO10.2.2.1 hO10.2.2.2).mono ?_
    rintro e w11 ⟨rfl, o3, hb11, _, _⟩
    have HD11 : Hid (Below w3.heap.size w3 w11) := (bl_alloc HD10.out o3).trans (hb11.below hg4)
    have HG11 : Hid (Nw w11 (w4.heap.size + 1) ag L.length L) := (HG10.out.below (bl_a o3)).but hb11 (by omega)
    have hs11 : w4.heap.size + 1 ≤ w11.heap.size := by rw [hb11.size]; simp; omega
    clear p0 p1 p2 p3 p4 HX10 hO10 hb11 HD10 HG10 hs10
    have hk : ¬ (1 + (len : Int) < 0) := by omega
    go_wp2_with fail
    refine (eqByteS_any ag a0 L.length L.length cg cp0 L L _ HG11.out.bs (HV3.out.below HD11.out)).mono ?_
    rintro e w12 ⟨rfl, q12, rfl⟩
    have HG12 : Hid (Nw (w11.drewN q12) (w4.heap.size + 1) ag L.length L) := HG11.out.below (bl_drewN q12)
    have HD12 : Hid (Below w3.heap.size w3 (w11.drewN q12)) := bl_trans HD11.out (bl_drewN q12)
    have hs12 : w4.heap.size + 1 ≤ (w11.drewN q12).heap.size := Nat.le_trans hs11 (bl_drewN q12).size
    clear HG11 HD11 hs11 hk
    generalize w11.drewN q12 = w12 at *
    go_wp2_with fail
    refine (mark_nw ag L.length cg (w4.heap.size + 1) L 1 _ HG12.out (by omega) (by omega) (by omega)).mono ?_
    rintro e w13 ⟨rfl, hM, hb13, hz13⟩
    have hl4 : w3.heap.size ≤ w4.heap.size + 1 := by omega
    have HD13 : Hid (Below w3.heap.size w3 w13) := HD12.out.trans (hb13.mono hl4)
    have HM13 : Hid (Marked w13 ag L.length 1) := hM
    clear hM hb13 hz13 HD12 HG12 hs12
    go_wp2_with fail
    refine (held_any ag L.length cg 1 _ HM13.out (by omega) (by omega) (by omega)).mono ?_
    rintro e w13' ⟨rfl, rfl⟩
    have hA13 := HA3.out.below HD13.out
    obtain ⟨y0, y1, y2, y3, y4⟩ := id hA13
    go_wp2_with fail
    refine (uA _ (HB3.out.below HD13.out)).mono ?_
    rintro e w14 ⟨g14, rfl, hO14, hg14, hb14⟩
    have HD14 : Hid (Below w3.heap.size w3 w14) := bl_trans HD13.out hb14
    have HM14 : Hid (Marked w14 ag L.length 1) := HM13.out.below hb14
    clear y0 y1 y2 y3 y4 hA13 hb14 HD13 HM13
    go_wp2_with fail
    refine (Im _ _ hO14.1 (HT3.out.below HD14.out)).mono ?_
    rintro e w15 ⟨ah, ch, rfl, hN15, hb15⟩
    have HD15 : Hid (Below w3.heap.size w3 w15) := bl_trans HD14.out hb15
    have HM15 : Hid (Marked w15 ag L.length 1) := HM14.out.below hb15
    have HH15 : Hid (Bs w15 ah L.length L) := hN15.bs
    clear hN15 hb15 HD14 HM14 hO14 hg14
    go_wp2_with fail
    refine (eqByteS_any ah a0 L.length L.length ch cp0 L L _ HH15.out (HV3.out.below HD15.out)).mono ?_
    rintro e w16 ⟨rfl, q16, rfl⟩
    have HD16 : Hid (Below w3.heap.size w3 (w15.drewN q16)) := bl_trans HD15.out (bl_drewN q16)
    have HM16 : Hid (Marked (w15.drewN q16) ag L.length 1) := HM15.out.below (bl_drewN q16)
    clear HD15 HM15 HH15
    generalize w15.drewN q16 = w16 at *
    go_wp2_with fail
    refine (held_any ag L.length cg 1 _ HM16.out (by omega) (by omega) (by omega)).mono ?_
    rintro e w16' ⟨rfl, rfl⟩
    go_wp2_with fail
    go_ret
    exact ⟨rfl, bl_trans HW3.out HD16.out⟩
  · have hz : leftOf 1048576 len = -1 := by unfold leftOf; rw [if_pos (by omega)]
    clear hB
    go_enter Tryd.func3, Tryd.ntmps3
    go_wp2_with (go_at_call 5; refine (szTerm_any k n s a len cap 1048576 _ (by omega) (by omega) hlm).mono ?_; rintro e w1 ⟨rfl, hb1⟩)
    go_ret
    exact ⟨rfl, bl_trans (bl_a _) hb1⟩
end Go.Proofs.YtmpiadlmkeimdaaDoor
