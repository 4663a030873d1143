/- PROVED: for every row of bytes: a drawn graph comes back from its text, and what is read of a drawn text, written and read is the same (FnGraphsCardSaid; no condition; the tables and the errors of the library lie as the text of the program lays them, which the card ties). Texts put together: ReV ReW -/
import Derived.Test.YtoclingolfdfeaaGreatDoorMk32
import Derived.Test.YtoclingolfdfeaaGreatDoorMk22
import Derived.Test.YtoclingolfdfeaaGreatDoorMk02
import Derived.Test.YtoclingolfdfeaaGreatDoorCards
import Derived.Test.YtoclingolfdfeaaGreatDoorTie
import Derived.LaidMore
import Derived.Stop.Joined
import Derived.Lib.LaidTab
import Derived.Stop.LaidErr
import Derived.SevenTiedAt
import Derived.LaidLaws
/- ReV -/
namespace Go.Proofs.YtoclingolfdfeaaGreatDoor
open Go.RowKit Go.Deep
set_option maxRecDepth 100000

set_option maxHeartbeats 8000000 in
theorem walkGraphs (a : Option Addr) (len cap : Nat) (w : World) (hlen : len ≤ 9223372036854775807) (hC : Code w a len) (hT : Tab w) (hE : Errs w) :
    Calls Tryz.prog 4 #[.slice a len cap] w fun e w' => e = .returned (.bool true) ∧ Below w.heap.size w w' := by
  have HTE : Hid (∀ W, Below w.heap.size w W → Tab W ∧ Errs W) := fun W hb => ⟨hT.below hb, hE.below hb⟩
  have HC : Hid (Code w a len) := hC
  clear hC hT hE
  go_enter Tryz.func4, Tryz.ntmps4
  go_wp2_with fail
  refine (drawGraphText_any a len cap w hlen HC.out).mono ?_
  rintro e w1 ⟨ga, gc, l, rfl, hl61, hO1, hG1, hb1⟩
  have hRC := row_calls hl61 hO1 hG1
  have HRT : Hid (rowOk l = true → rowText l = linesT (l.map G1.td3) ∧ (∀ x ∈ l.map G1.td3, okT x) ∧ (l.map G1.td3).Pairwise (fun x y => cmpD x y < 0) ∧ l.length ≤ 60) := row_text
  have HX1 : Hid (∀ W, Below w1.heap.size w1 W → Tab W → Calls Tryz.prog 14 #[.agg #[.slice ga l.length gc]] W (GtRes W (rowOk l) (rowText l))) := hRC.text
  have HX2 : Hid (∀ W, Below w1.heap.size w1 W → Calls Tryz.prog 15 #[.agg #[.slice ga l.length gc]] W fun e w' => e = .returned (.bool (rowOk l)) ∧ Below W.heap.size W w') := hRC.okS
  have HX3 : Hid (∀ W, Below w1.heap.size w1 W → Calls Tryz.prog 16 #[.agg #[.slice ga l.length gc]] W fun e w' => e = .returned (.bool (rowOk l)) ∧ Below W.heap.size W w') := hRC.okI
  have HB1 : Hid (Below w.heap.size w w1) := hb1
  obtain ⟨n, hn⟩ : ∃ n, n = l.length := ⟨_, rfl⟩
  rw [← hn] at HX1 HX2 HX3 ⊢
  obtain ⟨q, hq⟩ : ∃ q, q = rowOk l := ⟨_, rfl⟩
  rw [← hq] at HX1 HX2 HX3 HRT
  obtain ⟨L, hL⟩ : ∃ L, L = rowText l := ⟨_, rfl⟩
  rw [← hL] at HX1 HRT
  clear hRC hO1 hG1 hb1 hn hq hL hl61
  have HW1 : Hid (∀ W, Below w1.heap.size w1 W → Below w.heap.size w W) := fun W h => bl_trans HB1.out h
  have HB2 : Hid (Below w1.heap.size w1 (w1.alloc (.cells #[.slice ga n gc] 30))) := bl_a _
  have hz2 : (w1.alloc (.cells #[.slice ga n gc] 30)).cell? ⟨w1.heap.size, 0, none⟩ = some (.slice ga n gc) := by simp [go_sem]
  have hz2l : w1.heap.size < (w1.alloc (.cells #[.slice ga n gc] 30)).heap.size := by simp
  go_wp2_with fail
  generalize w1.alloc (.cells #[.slice ga n gc] 30) = w2 at *
  generalize hz : w1.heap.size = z at *
  clear hz
  refine (HX1.out _ HB2.out (HTE.out _ (HW1.out _ HB2.out)).1).mono ?_
  rintro e w3 ⟨ba, bc, rfl, hN3, hb3⟩
  have HB3 : Hid (Below z w1 w3) := HB2.out.trans (hb3.mono (Nat.le_of_lt hz2l))
  have hz3 : w3.cell? ⟨z, 0, none⟩ = some (.slice ga n gc) := (hb3.cell (p := ⟨z, 0, none⟩) hz2l).trans hz2
  have hz3l : z < w3.heap.size := Nat.lt_of_lt_of_le hz2l hb3.size
  have HN3 : Hid (Bs w3 ba L.length L) := hN3.bs
  clear hz2 hz2l hb3 hN3 HB2 HX1
  obtain ⟨m0, hm0⟩ : ∃ m0, m0 = L.length := ⟨_, rfl⟩
  rw [← hm0] at HN3 ⊢
  have HM0 : Hid (L.length = m0) := hm0.symm
  clear hm0
  go_wp2_with fail
  refine (HX2.out _ HB3.out).mono ?_
  rintro e w4 ⟨rfl, hb4⟩
  have HB4 : Hid (Below z w1 w4) := HB3.out.trans (hb4.mono (Nat.le_of_lt hz3l))
  have hz4 : w4.cell? ⟨z, 0, none⟩ = some (.slice ga n gc) := (hb4.cell (p := ⟨z, 0, none⟩) hz3l).trans hz3
  have hz4l : z < w4.heap.size := Nat.lt_of_lt_of_le hz3l hb4.size
  have HN4 : Hid (Bs w4 ba m0 L) := HN3.out.below hb4
  clear hz3 hz3l hb4 HN3 HB3 HX2
  have hqq : (q != q) = false := by cases q <;> rfl
  go_wp2_with fail
  refine (HX3.out _ HB4.out).mono ?_
  rintro e w5 ⟨rfl, hb5⟩
  have HB5 : Hid (Below w.heap.size w w5) := HW1.out _ (HB4.out.trans (hb5.mono (Nat.le_of_lt hz4l)))
  have HN5 : Hid (Bs w5 ba m0 L) := HN4.out.below hb5
  clear hz4 hz4l hb5 HN4 HB4 HX3 HB1 HW1
  cases q with
  | false =>
    clear HN5 HRT HM0
    go_wp2_with fail
    refine (drawGraphRead_any a len cap w5 hlen (code_below HC.out HB5.out)).mono ?_
    rintro e wa ⟨ra, rc, rb, rfl, hor, hbs, hba⟩
    obtain ⟨m, hm⟩ : ∃ m, m = rb.length := ⟨_, rfl⟩
    rw [← hm] at hbs ⊢
    have HM : Hid (rb.length = m) := hm.symm
    have HOR : Hid _ := hor
    have HBSa : Hid (Bs wa ra m rb) := hbs
    have HBa : Hid (Below w.heap.size w wa) := bl_trans HB5.out hba
    clear hm hor hbs hba HB5
    go_wp2_with fail
    refine (implGraphRead_any ra m rc rb wa HBSa.out (HTE.out _ HBa.out).1 (HTE.out _ HBa.out).2).mono ?_
    rintro e wb ⟨hbb, ⟨c, p, hrf, rfl⟩ | ⟨ga2, gc2, r2, hW2, rfl⟩⟩
    · obtain ⟨c1, c3, p0, pm⟩ := hrf.place HM.out
      have hc0 : (c != 0) = true := by simp; omega
      have HBb : Hid (Below w.heap.size w (wb.alloc (.cells #[.slice none 0 0] 30))) := bl_trans (bl_trans HBa.out hbb) (bl_a _)
      clear hrf hbb
      go_wp2_with fail
      go_ret
      exact ⟨rfl, HBb.out⟩
    · have HBb : Hid (Below w.heap.size w wb) := bl_trans HBa.out hbb
      have HW2 : Hid (ReadWell rb m wa wb ga2 gc2 r2) := hW2
      have HSH : Hid ((linesT (r2.map G1.td3)).length ≤ 3000) := drawn_short HM.out hW2 HOR.out
      have HBc : Hid (Below w.heap.size w (wb.alloc (.cells #[.slice ga2 r2.length gc2] 30))) := bl_trans HBb.out (bl_a _)
      have hX := read_text hW2 (bl_a (w := wb) (.cells #[.slice ga2 r2.length gc2] 30))
      have HX : Hid (Calls Tryz.prog 14 #[.agg #[.slice ga2 r2.length gc2]] (wb.alloc (.cells #[.slice ga2 r2.length gc2] 30)) (GtRes (wb.alloc (.cells #[.slice ga2 r2.length gc2] 30)) true (linesT (r2.map G1.td3)))) := hX.1 (HTE.out _ HBc.out).1
      obtain ⟨n2, hn2⟩ : ∃ n2, n2 = r2.length := ⟨_, rfl⟩
      rw [← hn2] at HX HBc ⊢
      clear hW2 hX hbb hn2 HBb
      go_wp2_with fail
      generalize wb.alloc (.cells #[.slice ga2 n2 gc2] 30) = wc at *
      refine HX.out.mono ?_
      rintro e wd ⟨da, dc, rfl, hNd, hbd⟩
      have HBd : Hid (Below w.heap.size w wd) := bl_trans HBc.out hbd
      have HNd : Hid (Bs wd da (linesT (r2.map G1.td3)).length (linesT (r2.map G1.td3))) := hNd.bs
      clear HX hNd hbd HBc
      obtain ⟨L2, hL2⟩ : ∃ L2, L2 = linesT (r2.map G1.td3) := ⟨_, rfl⟩
      have HAG : Hid (∀ len' v e v', len' ≤ 3000 → GrRes L2 len' v e v' → Below v.heap.size v v' ∧ ∃ a' cap' r', ReadWell L2 len' v v' a' cap' r' ∧ r'.map G1.td3 = r2.map G1.td3 ∧ e = .returned (.tuple #[.agg #[.slice a' r'.length cap'], .int .i64 0, .int .i64 0])) := by
        intro len' v e v' h1 h2
        rw [hL2] at h2 ⊢
        exact HW2.out.again h1 h2
      have HL2 : Hid (L2 = linesT (r2.map G1.td3)) := hL2
      rw [← hL2] at HNd HSH ⊢
      clear hL2 HW2
      obtain ⟨m2, hm2⟩ : ∃ m2, m2 = L2.length := ⟨_, rfl⟩
      rw [← hm2] at HNd HSH ⊢
      clear hm2
      go_wp2_with fail
      refine (implGraphRead_any da m2 dc L2 wd HNd.out (HTE.out _ HBd.out).1 (HTE.out _ HBd.out).2).mono ?_
      rintro e we hR
      obtain ⟨hbe, ea, ec, r3, hW3, hr3, rfl⟩ := HAG.out _ _ _ _ HSH.out hR
      have HBe : Hid (Below w.heap.size w (we.alloc (.cells #[.slice ea r3.length ec] 30))) := bl_trans (bl_trans HBd.out hbe) (bl_a _)
      have HNe : Hid (Bs (we.alloc (.cells #[.slice ea r3.length ec] 30)) da m2 L2) := (HNd.out.below hbe).below (bl_a _)
      have hX3 := (read_text hW3 (bl_a (w := we) (.cells #[.slice ea r3.length ec] 30))).2
      rw [hr3, ← HL2.out] at hX3
      have HX3 : Hid (Calls Tryz.prog 17 #[.agg #[.slice ea r3.length ec]] (we.alloc (.cells #[.slice ea r3.length ec] 30)) (GtRes (we.alloc (.cells #[.slice ea r3.length ec] 30)) true L2)) := hX3
      obtain ⟨n3, hn3⟩ : ∃ n3, n3 = r3.length := ⟨_, rfl⟩
      rw [← hn3] at HX3 HBe HNe ⊢
      clear hR hbe hW3 hr3 hX3 hn3 HAG HNd HBd
      go_wp2_with fail
      generalize we.alloc (.cells #[.slice ea n3 ec] 30) = wf at *
      refine HX3.out.mono ?_
      rintro e wg ⟨fa, fc, rfl, hNf, hbf⟩
      have HBf : Hid (Below w.heap.size w wg) := bl_trans HBe.out hbf
      have HS : Hid (Calls Tryz.prog 18 #[.slice da m2 dc, .slice fa L2.length fc] wg fun e w' => e = .returned (.bool true) ∧ w' = wg) := sameBytes_likeS da fa m2 dc L2.length fc L2 wg (HNe.out.below hbf) hNf.bs
      clear hNf hbf HX3 HBe HNe
      go_wp2_with fail
      refine HS.out.mono ?_
      rintro e wh ⟨rfl, h⟩
      subst wh
      clear HS
      go_wp2_with fail
      go_ret
      exact ⟨rfl, HBf.out⟩
  | true =>
    obtain ⟨hLe, hokT, hpw, hl60⟩ := HRT.out rfl
    have HLE : Hid (L = linesT (l.map G1.td3)) := hLe
    have HOT : Hid (∀ x ∈ l.map G1.td3, okT x) := hokT
    have HPW : Hid ((l.map G1.td3).Pairwise (fun x y => cmpD x y < 0)) := hpw
    have HL60 : Hid ((l.map G1.td3).length ≤ 60) := by
      show _ ≤ _
      rw [List.length_map]
      exact hl60
    clear hLe hokT hpw hl60 HRT
    go_wp2_with fail
    refine (implGraphRead_any ba m0 bc L w5 HN5.out (HTE.out _ HB5.out).1 (HTE.out _ HB5.out).2).mono ?_
    rintro e w6 hR
    by_cases h3 : m0 ≤ 3000
    · have hR' := hR
      rw [HLE.out] at hR'
      obtain ⟨hb6, a6, c6, r6, hW6, hr6, rfl⟩ := hR'.lines h3 HOT.out HPW.out HL60.out
      have HB7 : Hid (Below w.heap.size w (w6.alloc (.cells #[.slice a6 r6.length c6] 30))) := bl_trans (bl_trans HB5.out hb6) (bl_a _)
      have HN7 : Hid (Bs (w6.alloc (.cells #[.slice a6 r6.length c6] 30)) ba m0 L) := (HN5.out.below hb6).below (bl_a _)
      have hX6 := (read_text hW6 (bl_a (w := w6) (.cells #[.slice a6 r6.length c6] 30))).2
      rw [hr6, ← HLE.out] at hX6
      have HX6 : Hid (Calls Tryz.prog 17 #[.agg #[.slice a6 r6.length c6]] (w6.alloc (.cells #[.slice a6 r6.length c6] 30)) (GtRes (w6.alloc (.cells #[.slice a6 r6.length c6] 30)) true L)) := hX6
      obtain ⟨n6, hn6⟩ : ∃ n6, n6 = r6.length := ⟨_, rfl⟩
      rw [← hn6] at HX6 HB7 HN7 ⊢
      clear hR hR' hb6 hW6 hr6 hX6 hn6 HN5 HB5 HLE HOT HPW HL60
      go_wp2_with fail
      generalize w6.alloc (.cells #[.slice a6 n6 c6] 30) = w7 at *
      refine HX6.out.mono ?_
      rintro e w8 ⟨fa, fc, rfl, hN8, hb8⟩
      have HB8 : Hid (Below w.heap.size w w8) := bl_trans HB7.out hb8
      have HS : Hid (Calls Tryz.prog 18 #[.slice ba m0 bc, .slice fa L.length fc] w8 fun e w' => e = .returned (.bool true) ∧ w' = w8) := sameBytes_likeS ba fa m0 bc L.length fc L w8 (HN7.out.below hb8) hN8.bs
      clear hN8 hb8 HX6 HB7 HN7
      go_wp2_with fail
      refine HS.out.mono ?_
      rintro e w9 ⟨rfl, h⟩
      subst w9
      clear HS HM0
      go_wp2_with fail
      refine (drawGraphRead_any a len cap w8 hlen (code_below HC.out HB8.out)).mono ?_
      rintro e wa ⟨ra, rc, rb, rfl, hor, hbs, hba⟩
      obtain ⟨m, hm⟩ : ∃ m, m = rb.length := ⟨_, rfl⟩
      rw [← hm] at hbs ⊢
      have HM : Hid (rb.length = m) := hm.symm
      have HOR : Hid _ := hor
      have HBSa : Hid (Bs wa ra m rb) := hbs
      have HBa : Hid (Below w.heap.size w wa) := bl_trans HB8.out hba
      clear hm hor hbs hba HB8
      go_wp2_with fail
      refine (implGraphRead_any ra m rc rb wa HBSa.out (HTE.out _ HBa.out).1 (HTE.out _ HBa.out).2).mono ?_
      rintro e wb ⟨hbb, ⟨c, p, hrf, rfl⟩ | ⟨ga2, gc2, r2, hW2, rfl⟩⟩
      · obtain ⟨c1, c3, p0, pm⟩ := hrf.place HM.out
        have hc0 : (c != 0) = true := by simp; omega
        have HBb : Hid (Below w.heap.size w (wb.alloc (.cells #[.slice none 0 0] 30))) := bl_trans (bl_trans HBa.out hbb) (bl_a _)
        clear hrf hbb
        go_wp2_with fail
        go_ret
        exact ⟨rfl, HBb.out⟩
      · have HBb : Hid (Below w.heap.size w wb) := bl_trans HBa.out hbb
        have HW2 : Hid (ReadWell rb m wa wb ga2 gc2 r2) := hW2
        have HSH : Hid ((linesT (r2.map G1.td3)).length ≤ 3000) := drawn_short HM.out hW2 HOR.out
        have HBc : Hid (Below w.heap.size w (wb.alloc (.cells #[.slice ga2 r2.length gc2] 30))) := bl_trans HBb.out (bl_a _)
        have hX := read_text hW2 (bl_a (w := wb) (.cells #[.slice ga2 r2.length gc2] 30))
        have HX : Hid (Calls Tryz.prog 14 #[.agg #[.slice ga2 r2.length gc2]] (wb.alloc (.cells #[.slice ga2 r2.length gc2] 30)) (GtRes (wb.alloc (.cells #[.slice ga2 r2.length gc2] 30)) true (linesT (r2.map G1.td3)))) := hX.1 (HTE.out _ HBc.out).1
        obtain ⟨n2, hn2⟩ : ∃ n2, n2 = r2.length := ⟨_, rfl⟩
        rw [← hn2] at HX HBc ⊢
        clear hW2 hX hbb hn2 HBb
        go_wp2_with fail
        generalize wb.alloc (.cells #[.slice ga2 n2 gc2] 30) = wc at *
        refine HX.out.mono ?_
        rintro e wd ⟨da, dc, rfl, hNd, hbd⟩
        have HBd : Hid (Below w.heap.size w wd) := bl_trans HBc.out hbd
        have HNd : Hid (Bs wd da (linesT (r2.map G1.td3)).length (linesT (r2.map G1.td3))) := hNd.bs
        clear HX hNd hbd HBc
        obtain ⟨L2, hL2⟩ : ∃ L2, L2 = linesT (r2.map G1.td3) := ⟨_, rfl⟩
        have HAG : Hid (∀ len' v e v', len' ≤ 3000 → GrRes L2 len' v e v' → Below v.heap.size v v' ∧ ∃ a' cap' r', ReadWell L2 len' v v' a' cap' r' ∧ r'.map G1.td3 = r2.map G1.td3 ∧ e = .returned (.tuple #[.agg #[.slice a' r'.length cap'], .int .i64 0, .int .i64 0])) := by
          intro len' v e v' h1 h2
          rw [hL2] at h2 ⊢
          exact HW2.out.again h1 h2
        have HL2 : Hid (L2 = linesT (r2.map G1.td3)) := hL2
        rw [← hL2] at HNd HSH ⊢
        clear hL2 HW2
        obtain ⟨m2, hm2⟩ : ∃ m2, m2 = L2.length := ⟨_, rfl⟩
        rw [← hm2] at HNd HSH ⊢
        clear hm2
        go_wp2_with fail
        refine (implGraphRead_any da m2 dc L2 wd HNd.out (HTE.out _ HBd.out).1 (HTE.out _ HBd.out).2).mono ?_
        rintro e we hR
        obtain ⟨hbe, ea, ec, r3, hW3, hr3, rfl⟩ := HAG.out _ _ _ _ HSH.out hR
        have HBe : Hid (Below w.heap.size w (we.alloc (.cells #[.slice ea r3.length ec] 30))) := bl_trans (bl_trans HBd.out hbe) (bl_a _)
        have HNe : Hid (Bs (we.alloc (.cells #[.slice ea r3.length ec] 30)) da m2 L2) := (HNd.out.below hbe).below (bl_a _)
        have hX3 := (read_text hW3 (bl_a (w := we) (.cells #[.slice ea r3.length ec] 30))).2
        rw [hr3, ← HL2.out] at hX3
        have HX3 : Hid (Calls Tryz.prog 17 #[.agg #[.slice ea r3.length ec]] (we.alloc (.cells #[.slice ea r3.length ec] 30)) (GtRes (we.alloc (.cells #[.slice ea r3.length ec] 30)) true L2)) := hX3
        obtain ⟨n3, hn3⟩ : ∃ n3, n3 = r3.length := ⟨_, rfl⟩
        rw [← hn3] at HX3 HBe HNe ⊢
        clear hR hbe hW3 hr3 hX3 hn3 HAG HNd HBd
        go_wp2_with fail
        generalize we.alloc (.cells #[.slice ea n3 ec] 30) = wf at *
        refine HX3.out.mono ?_
        rintro e wg ⟨fa, fc, rfl, hNf, hbf⟩
        have HBf : Hid (Below w.heap.size w wg) := bl_trans HBe.out hbf
        have HS : Hid (Calls Tryz.prog 18 #[.slice da m2 dc, .slice fa L2.length fc] wg fun e w' => e = .returned (.bool true) ∧ w' = wg) := sameBytes_likeS da fa m2 dc L2.length fc L2 wg (HNe.out.below hbf) hNf.bs
        clear hNf hbf HX3 HBe HNe
        go_wp2_with fail
        refine HS.out.mono ?_
        rintro e wh ⟨rfl, h⟩
        subst wh
        clear HS
        go_wp2_with fail
        go_ret
        exact ⟨rfl, HBf.out⟩
    · obtain ⟨hb6, ⟨c, p, hrf, rfl⟩ | ⟨_, _, _, hW, _⟩⟩ := hR
      · obtain ⟨c1, c3, p0, pm⟩ := hrf.place HM0.out
        have hc0 : (c != 0) = true := by simp; omega
        have h3z : (3000 : Int) < (m0 : Int) := by omega
        have HB7 : Hid (Below w.heap.size w (w6.alloc (.cells #[.slice none 0 0] 30))) := bl_trans (bl_trans HB5.out hb6) (bl_a _)
        clear hrf hb6 HN5 HB5 HLE HOT HPW HL60
        go_wp2_with fail
        generalize w6.alloc (.cells #[.slice none 0 0] 30) = w7 at *
        refine (none_text w7).mono ?_
        rintro e w8 ⟨xa, xn, xc, xq, rfl, hb8⟩
        have HB8 : Hid (Below w.heap.size w w8) := bl_trans HB7.out hb8
        clear hb8 HB7
        go_wp2_with fail
        go_ret
        exact ⟨rfl, HB8.out⟩
      · exact absurd hW.le h3
end Go.Proofs.YtoclingolfdfeaaGreatDoor

/- ReW -/
namespace Go.Proofs.YtoclingolfdfeaaGreatDoor
open Go.ChangeShapes Go.WideShapes Go.ChangeAt Go.RowKit Go.Joins
set_option maxRecDepth 100000

theorem door_metGraphs (os : Os) (args : Array Value) : laidMetH Tryz.prog Rows.fnGraphsRow.laid ((World.doorLaid Tryz.prog 62 os).forCall (fun _ _ => 0) ⟨#[], args, []⟩).memory :=
  laidMetH_of_parts3 (fuel := 8) (laidMet_of_run' 8 (by kernel_rfl) (by kernel_rfl)) (by kernel_rfl) (by kernel_rfl)

theorem Tryz.cells141 : Tryz.prog.cellsOf 141 = 1 := by kernel_rfl
theorem tab_of_laid {W : World} (h : laidMetH Tryz.prog Rows.fnGraphsRow.laid W) : Tab W := by
  rw [MakeChecks.laidMetH_plain _ _ _ (by kernel_rfl)] at h
  exact Lib.tabIs_of_head (k := .u64) (zs := Lib.pow10Tab) (rest := [("strconv.ErrRange", Rows.laid_strconv_ErrRange), ("strconv.ErrSyntax", Rows.laid_strconv_ErrSyntax)]) (g := 0) (t := 174) (n := 20) (by kernel_rfl) (by kernel_rfl) (by kernel_rfl) Tryz.underlying141 Tryz.cells141 (by kernel_rfl) (laidMet.tail (laidMet.tail h))
theorem starErr : "*" ++ "errors.errorString" = "*errors.errorString" := by decide
theorem rowErr (u : TypeId) (h : Tryz.prog.typeName? 3 u = some "*errors.errorString") : u = 203 :=
  typeName_ptr_named (nm := "errors.errorString") (by rw [starErr]; kernel_rfl) (by kernel_rfl) (by decide) u (by rw [starErr]; exact h)
theorem errs_of_laid {W : World} (h : laidMetH Tryz.prog Rows.fnGraphsRow.laid W) : Errs W := by
  rw [MakeChecks.laidMetH_plain _ _ _ (by kernel_rfl)] at h
  have hR := laidMet.tail (laidMet.tail (laidMet.tail h))
  have hS := laidMet.tail hR
  obtain ⟨a1, s1, hv1, _⟩ := laid_sentinel (g := 5) (ti := 123) (tp := 203) (te := 205) (ts := 9) (f := { name := "s", type := 9, offset := 0, embedded := false, tag := "", pkgPath := "errors", byteOffset := 0 }) (ms := #[("Error", 54)]) hR (by kernel_rfl) (by kernel_rfl) (by kernel_rfl) rowErr (by kernel_rfl) (by kernel_rfl) rfl rfl Tryz.underlying9 (by kernel_rfl) (by kernel_rfl)
  obtain ⟨a2, s2, hv2, _⟩ := laid_sentinel (g := 4) (ti := 123) (tp := 203) (te := 205) (ts := 9) (f := { name := "s", type := 9, offset := 0, embedded := false, tag := "", pkgPath := "errors", byteOffset := 0 }) (ms := #[("Error", 54)]) hS (by kernel_rfl) (by kernel_rfl) (by kernel_rfl) rowErr (by kernel_rfl) (by kernel_rfl) rfl rfl Tryz.underlying9 (by kernel_rfl) (by kernel_rfl)
  have c1 : W.cell? ⟨5, 0, none⟩ = some (.iface 203 (.pointer (some a1))) := by simpa using World.var?_cell (P := Tryz.prog) (by kernel_rfl) hv1 0
  have c2 : W.cell? ⟨4, 0, none⟩ = some (.iface 203 (.pointer (some a2))) := by simpa using World.var?_cell (P := Tryz.prog) (by kernel_rfl) hv2 0
  exact ⟨cell_lt c2, cell_lt c1, ⟨_, _, c2⟩, _, _, c1⟩

theorem liftedGraphs (os : Os) (started : os.Started) (H : Type) (enc : TypeId × Value → H) :
    ReturnsInHanded {} Tryz.checked os 4 .any (fun w args => (Rows.fnGraphsSpec.pre enc Tryz.prog Tryz.f4 [] false w args ∧ laidMetH Tryz.prog Rows.fnGraphsRow.laid w) ∧ sizedMet enc Tryz.prog Tryz.f4 (OpenSpec.ofChange Rows.fnGraphsSpec) false w args)
      (Rows.fnGraphsSpec.post enc Tryz.prog Tryz.f4 false true false false) := by
  refine returnsInHanded_of_change_and (C := Tryz.checked) (X := fun w _ => laidMetH Tryz.prog Rows.fnGraphsRow.laid w) (fun _ _ _ hh h => h.of_heap hh) own started (by kernel_rfl) Tryz.func4
    (ChangeSpec.witness_shaped (enc := enc) (C := Tryz.checked) (os := os) (X := fun w _ => laidMetH Tryz.prog Rows.fnGraphsRow.laid w) false (World.doorLaid Tryz.prog 62 os) #[.slice none 0 0] 8 rfl (World.shaped_of_RefB (by kernel_rfl) (by kernel_rfl)) (by kernel_rfl) (by kernel_rfl) (by kernel_rfl) (door_metGraphs os _)) ?_
  intro W base args ds gs before hval0 hW _ _ hL _
  have hval : ∀ (j : Nat) t v, Tryz.f4.params[j]? = some t → args[j]? = some v → Value.okWide Tryz.prog W .any base t v := hval0
  have hW' := hW
  obtain ⟨p, q, hA0, hV, rfl, hfz, hnd⟩ := hW
  have hA : DataW.TrodAll enc Tryz.prog W 0 (fun _ => true) true Tryz.f4.params.toList args.toList ds p := hA0
  rw [Tryz.params4] at hA hval
  obtain ⟨v0, vs0, d0, ds0, p0, q0, hargs, rfl, rfl, h0, r0⟩ := trodAll_cons hA
  obtain ⟨rfl, rfl, rfl⟩ := trodAll_nil r0
  obtain rfl : args = #[v0] := by cases args; simp_all
  obtain ⟨rfl, rfl⟩ := trodVars_none hV
  have k0 := h0
  have lt0 : ∀ x ∈ p0, x.block < W.heap.size := by obtain ⟨m, hm⟩ := k0; exact DataW.trod_lt m _ _ _ hm
  obtain ⟨a, len, cap, rfl, hlen, hC⟩ := open_code (hval 0 22 v0 rfl rfl) h0
  clear hA0 hval0
  refine (walkGraphs a len cap W hlen hC (tab_of_laid hL) (errs_of_laid hL)).mono fun e W' ⟨he, bel⟩ => ?_
  subst he
  exact ⟨_, rfl, _, _, _, [], _, [], hW', trodAll_mk1 (shut_bool Tryz.underlying4 _), (trodAll_cons_mk (Below.trod laidOut (by kernel_rfl) (of_decide_eq_true (by kernel_rfl)) k0 bel lt0) trodAll_mk0), rfl, bel.frame _, fun h => by cases h⟩

theorem overGraphs : Rows.FnGraphsSaid :=
  OpenClaim.holds_of_wide 4 Tryz.f4 rfl rfl rfl rfl rfl rfl rfl ⟨rfl, rfl, rfl, rfl, rfl⟩ rfl rfl rfl rfl rfl (by kernel_rfl) Tryz.func4 (by kernel_rfl)
    (of_decide_eq_true (by kernel_rfl)) (by unfold Func.isWrapper; first | (rw [if_pos (by decide +kernel)]; kernel_rfl) | (rw [if_neg (by decide +kernel)]; exact ⟨rfl, rfl⟩))
    (fun os started H enc _ => liftedGraphs os started H enc)

theorem provedGraphs : Rows.FnGraphsCardSaid :=
  Claim7.holds_tied_plain_at .later [] [.data, .data, .data, .sentinel, .sentinel] true Rows.fnGraphsCard.stood.harness true
    overGraphs (fun _ h => by cases h) (by kernel_rfl) (fun _ h => by cases h) fnGraphs_row_tie rfl ⟨rfl, rfl⟩ (by kernel_rfl) rfl
    (fun f fn hf hfn => by
      obtain rfl : f = 4 := Option.some.inj ((show Tryz.prog.funcNamed Rows.fnGraphsRow.func = some 4 by kernel_rfl).symm.trans hf) |>.symm
      obtain rfl : fn = Tryz.f4 := (Option.some.inj (Tryz.func4.symm.trans hfn)).symm
      exact ⟨by kernel_rfl, fun j t ht => by
        rw [Tryz.params4] at ht
        have hm : t ∈ [22] := by simpa using Array.mem_of_getElem? ht
        have hall : ([22].all fun u => !Tryz.prog.wantsStandIn u) = true := by kernel_rfl
        exact (show Tryz.prog.wantsStandIn t = false by simpa using List.all_eq_true.1 hall t hm)⟩)
    (by kernel_rfl)
#print axioms provedGraphs
end Go.Proofs.YtoclingolfdfeaaGreatDoor
