/- Texts put together: GtxC ShwK GtxE ReJ ReK ReP ReU ReF -/
import Derived.Test.YtoclingolfdfeaaGreatDoorMk22
import Derived.Test.YtoclingolfdfeaaGreatDoorMk19
import Derived.Deep.RegionHeld3
import Derived.Test.YtoclingolfdfeaaGreatDoorMk31
import Derived.Test.YtoclingolfdfeaaGreatDoorMk17
import Derived.Test.YtoclingolfdfeaaGreatDoorMk23
import Derived.Test.YtoclingolfdfeaaGreatDoorMk21
import Derived.Test.YtoclingolfdfeaaGreatDoorMk02
import Derived.Deep.AppendSrc
import Derived.Deep.Upon
import Derived.Laws.IdiomCopy
import Derived.Test.YtoclingolfdfeaaGreatDoorMk01
import Derived.Lib.QuietBelow
/- GtxC -/
namespace Go.Proofs.YtoclingolfdfeaaGreatDoor
open Go.RowKit Go.Deep
set_option maxRecDepth 100000

/-- What Show of a term that may be answers. -/
def ShRes (w : World) (L : List Int) (e : Ending) (w' : World) : Prop := ∃ g cap, e = .returned (.slice (some ⟨g, 0, none⟩) L.length cap) ∧ (∀ j u, (L.map (Value.int .u8))[j]? = some u → w'.cell? ((⟨g, 0, none⟩ : Addr).add j) = some u) ∧ Below w.heap.size w w'
theorem implShow_tm (t : Tm) (bs : List Int) (w : World) (hf : t.fits) (hB : Bs w t.a t.len bs) (hok : termOk t.k bs t.n t.s = true) (ht : Tab w) :
    Calls Tryz.prog 7 #[.agg #[.int .i64 t.k, .slice t.a t.len t.cap, .int .i64 t.n, .int .i64 t.s]] w fun e w' => ShRes w (t.show bs) e w' := by
  obtain ⟨f1, f2, f3, f4⟩ := hf
  refine (implShow_any t.k t.n t.s t.a t.len t.cap bs w hB f1 f2 f3 f4 ht).mono ?_
  have e : shownL t.k t.n t.s bs = t.show bs := by simp [shownL, hok, Tm.show]
  rw [e]
  have hl := Tm.show_len hok
  rintro e w' ⟨a, cap, rfl, hn, hb⟩
  rcases hn with ⟨_, h0, _⟩ | ⟨g, rfl, _, ho⟩
  · omega
  · exact ⟨g, cap, rfl, bs_news ho.1, hb⟩

/-- The first q terms of a line. -/
def pcs (L1 L2 L3 : List Int) : Nat → List Int
  | 0 => []
  | 1 => L1 ++ [32]
  | 2 => L1 ++ [32] ++ L2 ++ [32]
  | _ => L1 ++ [32] ++ L2 ++ [32] ++ L3 ++ [32]

/-- What GraphText answers. -/
def GtRes (w : World) (ok : Bool) (L : List Int) (e : Ending) (w' : World) : Prop := ∃ a cap, e = .returned (.tuple #[.slice a L.length cap, .bool ok]) ∧ Nw w' w.heap.size a L.length L ∧ Below w.heap.size w w'

set_option maxHeartbeats 4000000 in
theorem implGraphText_any (a : Option Addr) (n cap : Nat) (T U V : Nat → Tm) (bt bu bv : Nat → List Int) (w : World) (hn : n ≤ 1048576) (hf : AllFit n T U V) (hR : Rows w a n T U V) (h1 : Texts w n T bt) (h2 : Texts w n U bu) (h3 : Texts w n V bv) (ht : Tab w) :
    Calls Tryz.prog 14 #[.agg #[.slice a n cap]] w fun e w' => GtRes w (graphOk n T U V bt bu bv) (textL n T U V bt bu bv) e w' := by
  have O := fun (w' : World) (hq : Below w.heap.size w w') => implGraphOk_any a n cap T U V bt bu bv w' hn hf (hR.below hq) (h1.below hq) (h2.below hq) (h3.below hq)
  cases hok : graphOk n T U V bt bu bv
  · have e : textL n T U V bt bu bv = [] := by simp [textL, hok]
    rw [e]
    rw [hok] at O
    clear hR h1 h2 h3 hf
    go_enter Tryz.func14, Tryz.ntmps14
    go_wp2_with fail
    refine (O _ (bl_a _)).mono ?_
    rintro e w1 ⟨rfl, hb1⟩
    have HB1 : Hid (Below w.heap.size w w1) := bl_trans (bl_a _) hb1
    clear hb1 O
    go_wp2_with fail
    go_ret2
    exact ⟨none, 0, rfl, Nw.nil _ _, HB1.out⟩
  have e : textL n T U V bt bu bv = linesL T U V bt bu bv n := by simp [textL, hok]
  rw [e]
  rw [hok] at O
  obtain ⟨hn60, hst⟩ := graphOk_out hok
  clear hok e
  by_cases hn0 : n = 0
  · subst hn0
    clear hR h1 h2 h3 hf
    go_enter Tryz.func14, Tryz.ntmps14
    go_wp2_with fail
    refine (O _ (bl_a _)).mono ?_
    rintro e w1 ⟨rfl, hb1⟩
    have HB1 : Hid (Below w.heap.size w w1) := bl_trans (bl_a _) hb1
    have hbox : w1.cell? ⟨w.heap.size, 0, none⟩ = some (.slice a 0 cap) := (hb1.cell (p := ⟨w.heap.size, 0, none⟩) (by simp)).trans (by simp [go_sem])
    clear hb1 O
    go_wp2_with fail
    refine wp_loop_rounds 1 ?_
    rw [rounds_succ]
    go_wp2
    go_ret2
    exact ⟨none, 0, rfl, Nw.nil _ _, HB1.out⟩
  obtain ⟨b, off, rfl, hlt, hc⟩ := hR.resolve_left hn0
  have HC : Hid (∀ i, i < n → Row12 w b (off + i * 12) (T i) (U i) (V i)) := hc
  have H1 : Hid (Texts w n T bt) := h1
  have H2 : Hid (Texts w n U bu) := h2
  have H3 : Hid (Texts w n V bv) := h3
  have HF : Hid (AllFit n T U V) := hf
  have HT : Hid (Tab w) := ht
  have HOK : Hid (∀ i, i < n → stepOk T U V bt bu bv i = true) := hst
  have HLEN : Hid (∀ k, k ≤ n → (linesL T U V bt bu bv k).length ≤ k * 200) := fun k hk => linesL_len k (fun j hj => stepOk_terms (hst j (by omega)))
  have HBY : Hid (Byt (linesL T U V bt bu bv n)) := linesL_byt n (fun i hi => (h1 i hi).byt) (fun i hi => (h2 i hi).byt) (fun i hi => (h3 i hi).byt)
  clear hR hc h1 h2 h3 hst hf ht
  go_enter Tryz.func14, Tryz.ntmps14
  go_wp2_with fail
  refine (O _ (bl_a _)).mono ?_
  rintro e w1 ⟨rfl, hb1⟩
  have HW1 : Hid (Below w.heap.size w w1) := bl_trans (bl_a _) hb1
  have hbox : w1.cell? ⟨w.heap.size, 0, none⟩ = some (.slice (some ⟨b, off, none⟩) n cap) := (hb1.cell (p := ⟨w.heap.size, 0, none⟩) (by simp)).trans (by simp [go_sem])
  have HW : Hid (∀ wr, Below w1.heap.size w1 wr → Below w.heap.size w wr) := fun wr h => bl_trans HW1.out h
  clear hb1 O
  go_wp2_with fail
  go_loopw [4, 15] (fun x i wr => ∃ (k N : Nat) (v : Value), k ≤ n ∧ i = .int .i64 k ∧ v = x ∧ N ≤ 12000 ∧ Hid (Own8 wr w1.heap.size v N (linesL T U V bt bu bv k)) ∧ Hid (Below w1.heap.size w1 wr))
    (fun _ i _ => n - (intOf i).toNat)
  case atStart => exact ⟨0, 0, _, Nat.zero_le _, rfl, rfl, by omega, Own8.nil _ _, Below.refl _ _⟩
  case round =>
    obtain ⟨wo, rfl⟩ : ∃ wo, wo = wr := ⟨_, rfl⟩
    obtain ⟨k, N, v, hk, rfl, rfl, hN, HO, HB⟩ := hrel
    by_cases hlk : k < n
    · have hx := (HC.out k hlk).of_block ((HW.out wo HB.out).block b hlt)
      obtain ⟨ok1, ok2, ok3⟩ := stepOk_terms (HOK.out k hlk)
      have hl1 := Tm.show_len ok1
      have hl2 := Tm.show_len ok2
      have hl3 := Tm.show_len ok3
      obtain ⟨f1, f2, f3⟩ := HF.out k hlk
      have S1 := fun (w' : World) (hq : Below w1.heap.size w1 w') => implShow_tm (T k) (bt k) w' f1 ((H1.out k hlk).below (HW.out w' hq)) ok1 (HT.out.below (HW.out w' hq))
      have S2 := fun (w' : World) (hq : Below w1.heap.size w1 w') => implShow_tm (U k) (bu k) w' f2 ((H2.out k hlk).below (HW.out w' hq)) ok2 (HT.out.below (HW.out w' hq))
      have S3 := fun (w' : World) (hq : Below w1.heap.size w1 w') => implShow_tm (V k) (bv k) w' f3 ((H3.out k hlk).below (HW.out w' hq)) ok3 (HT.out.below (HW.out w' hq))
      have HL1 : Hid (linesL T U V bt bu bv (k + 1) = linesL T U V bt bu bv k ++ lineL (T k) (U k) (V k) (bt k) (bu k) (bv k)) := rfl
      have hNk : N + 200 ≤ 12000 := by
        have e1 := HO.out.len
        have e2 := HLEN.out k hk
        omega
      unfold lineL at HL1
      generalize (T k).show (bt k) = L1 at *
      generalize (U k).show (bu k) = L2 at *
      generalize (V k).show (bv k) = L3 at *
      clear ok1 ok2 ok3 f1 f2 f3
      have hne0 : v.ownBlock ≠ some (wo.heap.size + 1) := HO.out.off (Nat.le_succ _)
      have HBa : Hid (Below w1.heap.size w1 ((wo.alloc (.cells (cells12 (T k) (U k) (V k)) 36)).alloc (.cells (cells12 (T k) (U k) (V k)) 24))) := (HB.out.alloc HB.out.size _).alloc (Nat.le_trans HB.out.size (by simp)) _
      have HAa : Hid (At12 ((wo.alloc (.cells (cells12 (T k) (U k) (V k)) 36)).alloc (.cells (cells12 (T k) (U k) (V k)) 24)) (wo.heap.size + 1) (T k) (U k) (V k)) := (Own12.at _ (wo.heap.size + 1) _ _ _ _ (by simp)).1
      have HOa : Hid (Own8 ((wo.alloc (.cells (cells12 (T k) (U k) (V k)) 36)).alloc (.cells (cells12 (T k) (U k) (V k)) 24)) w1.heap.size v N (linesL T U V bt bu bv k ++ pcs L1 L2 L3 0)) := by
        have := HO.out.below (bl_alloc (bl_a (.cells (cells12 (T k) (U k) (V k)) 36)) (.cells (cells12 (T k) (U k) (V k)) 24))
        show Own8 _ _ _ _ _
        rw [show pcs L1 L2 L3 0 = [] from rfl, List.append_nil]
        exact this
      obtain ⟨⟨x0, x1, x2, x3⟩, ⟨x4, x5, x6, x7⟩, ⟨x8, x9, xa, xb⟩⟩ := hx
      clear HO
      go_wp2_with fail
      clear x0 x1 x2 x3 x4 x5 x6 x7 x8 x9 xa xb
      go_loopw [4, 27] (fun x j wr => ∃ (q M : Nat) (v : Value), q ≤ 3 ∧ j = .int .i64 q ∧ v = x ∧ M ≤ N + q * 65 ∧ Hid (Own8 wr w1.heap.size v M (linesL T U V bt bu bv k ++ pcs L1 L2 L3 q)) ∧ Hid (Below w1.heap.size w1 wr) ∧ Hid (At12 wr (wo.heap.size + 1) (T k) (U k) (V k)) ∧ v.ownBlock ≠ some (wo.heap.size + 1))
        (fun _ j _ => 3 - (intOf j).toNat)
      case atStart => exact ⟨0, N, _, by omega, rfl, rfl, by omega, HOa, HBa, HAa, hne0⟩
      case round =>
        clear HOa HBa HAa hne0
        obtain ⟨q, M, v, hq, rfl, rfl, hM, HOi, HBi, HAi, hne⟩ := hrel
        rcases (by omega : q = 0 ∨ q = 1 ∨ q = 2 ∨ q = 3) with rfl | rfl | rfl | rfl
        · have hx := HAi.out
          obtain ⟨y0, ⟨x0, x1, x2, x3⟩, ⟨x4, x5, x6, x7⟩, ⟨x8, x9, xa, xb⟩⟩ := hx
          have HB2 : Hid (Below w1.heap.size w1 (wr.alloc (.cells #[.int .i64 (T k).k, .slice (T k).a (T k).len (T k).cap, .int .i64 (T k).n, .int .i64 (T k).s] 24))) := HBi.out.alloc HBi.out.size _
          have HAA : Hid (At12 (wr.alloc (.cells #[.int .i64 (T k).k, .slice (T k).a (T k).len (T k).cap, .int .i64 (T k).n, .int .i64 (T k).s] 24)) (wo.heap.size + 1) (T k) (U k) (V k)) := HAi.out.below (bl_a _)
          have HOO : Hid (Own8 (wr.alloc (.cells #[.int .i64 (T k).k, .slice (T k).a (T k).len (T k).cap, .int .i64 (T k).n, .int .i64 (T k).s] 24)) w1.heap.size v M (linesL T U V bt bu bv k ++ pcs L1 L2 L3 0)) := HOi.out.below (bl_a _)
          have h4 := At4.new wr (.int .i64 (T k).k) (.slice (T k).a (T k).len (T k).cap) (.int .i64 (T k).n) (.int .i64 (T k).s) 24
          go_wp2_with fail
          refine (S1 _ HB2.out).mono ?_
          rintro e w2 ⟨g2, c2, rfl, hn2, hb2⟩
          have HB3 : Hid (Below w1.heap.size w1 w2) := HB2.out.trans (hb2.mono HB2.out.size)
          have HA3 : Hid (At12 w2 (wo.heap.size + 1) (T k) (U k) (V k)) := HAA.out.below hb2
          have HO3 : Hid (w2.ownsRow w1.heap.size 5 1 v M ((linesL T U V bt bu bv k ++ pcs L1 L2 L3 0).map (Value.int .u8))) := (HOO.out.below hb2).1
          have HN3 : Hid (∀ j u, (L1.map (Value.int .u8))[j]? = some u → w2.cell? ((⟨g2, 0, none⟩ : Addr).add j) = some u) := hn2
          have hs3 := HB3.out.size
          clear y0 x0 x1 x2 x3 x4 x5 x6 x7 x8 x9 xa xb hb2 hn2 HB2 HAA HOO h4
          go_wp2_with (first
            | (refine app8 rfl (.tmp 31) (.tmp 33) rfl w1.heap.size v M (linesL T U V bt bu bv k ++ pcs L1 L2 L3 0) rfl HO3 ⟨g2, 0, none⟩ L1.length _ L1 rfl rfl HN3 (by omega) (M + L1.length) rfl (linesL T U V bt bu bv k ++ pcs L1 L2 L3 0 ++ L1) rfl (by omega) hs3 ?_; intro g3 c3 w3 HR3 hgx hax HBx; have hne3 : g3 ≠ wo.heap.size + 1 := away hax.out hne HA3.out.1; have HA4 := HA3.out.grown hgx.out hne; have HB4 : Hid (Below w1.heap.size w1 w3) := HB3.out.trans HBx.out; clear hgx hax HBx HN3 HO3 hs3 HB3 HA3 hne; have HO4 := (HR3.out.below (bl_a (.cells #[.int .u8 32] 5))).own; have HN4 : Hid (∀ j u, (([32] : List Int).map (Value.int .u8))[j]? = some u → (w3.alloc (.cells #[.int .u8 32] 5)).cell? ((⟨w3.heap.size, 0, none⟩ : Addr).add j) = some u) := one_news w3 32; have HA4a : Hid (At12 (w3.alloc (.cells #[.int .u8 32] 5)) (wo.heap.size + 1) (T k) (U k) (V k)) := HA4.below (bl_a _); have HB4a : Hid (Below w1.heap.size w1 (w3.alloc (.cells #[.int .u8 32] 5))) := HB4.out.alloc HB4.out.size _; have hs4 := HB4a.out.size; have hne := own_ne (n := M + L1.length) (c := c3) hne3; clear HR3 HA4 HB4)
            | (refine app8 rfl (.tmp 34) (.tmp 35) rfl w1.heap.size (.slice (some ⟨g3, 0, none⟩) (M + L1.length) c3) (M + L1.length) (linesL T U V bt bu bv k ++ pcs L1 L2 L3 0 ++ L1) rfl HO4 ⟨w3.heap.size, 0, none⟩ 1 1 [32] rfl rfl HN4 (by omega) (M + L1.length + 1) rfl (linesL T U V bt bu bv k ++ pcs L1 L2 L3 0 ++ L1 ++ [32]) rfl (by omega) hs4 ?_; intro g5 c5 w5 HR5 hgx hax HBx; have hne5 : g5 ≠ wo.heap.size + 1 := away hax.out hne HA4a.out.1; have HA5 : Hid (At12 w5 (wo.heap.size + 1) (T k) (U k) (V k)) := HA4a.out.grown hgx.out hne; have HB5 : Hid (Below w1.heap.size w1 w5) := HB4a.out.trans HBx.out; clear hgx hax HBx HN4 HO4 hs4 HB4a HA4a hne hne3))
          go_roundw
          case rel =>
            refine ⟨1, M + L1.length + 1, _, by omega, by go_num, rfl, by omega, ?_, HB5, HA5, own_ne hne5⟩
            show Own8 _ _ _ _ _
            have h := HR5.out.own8
            simpa [pcs] using h
          case measure => simp [intOf]
        · have hx := HAi.out
          obtain ⟨y0, ⟨x0, x1, x2, x3⟩, ⟨x4, x5, x6, x7⟩, ⟨x8, x9, xa, xb⟩⟩ := hx
          have HB2 : Hid (Below w1.heap.size w1 (wr.alloc (.cells #[.int .i64 (U k).k, .slice (U k).a (U k).len (U k).cap, .int .i64 (U k).n, .int .i64 (U k).s] 24))) := HBi.out.alloc HBi.out.size _
          have HAA : Hid (At12 (wr.alloc (.cells #[.int .i64 (U k).k, .slice (U k).a (U k).len (U k).cap, .int .i64 (U k).n, .int .i64 (U k).s] 24)) (wo.heap.size + 1) (T k) (U k) (V k)) := HAi.out.below (bl_a _)
          have HOO : Hid (Own8 (wr.alloc (.cells #[.int .i64 (U k).k, .slice (U k).a (U k).len (U k).cap, .int .i64 (U k).n, .int .i64 (U k).s] 24)) w1.heap.size v M (linesL T U V bt bu bv k ++ pcs L1 L2 L3 1)) := HOi.out.below (bl_a _)
          have h4 := At4.new wr (.int .i64 (U k).k) (.slice (U k).a (U k).len (U k).cap) (.int .i64 (U k).n) (.int .i64 (U k).s) 24
          go_wp2_with fail
          refine (S2 _ HB2.out).mono ?_
          rintro e w2 ⟨g2, c2, rfl, hn2, hb2⟩
          have HB3 : Hid (Below w1.heap.size w1 w2) := HB2.out.trans (hb2.mono HB2.out.size)
          have HA3 : Hid (At12 w2 (wo.heap.size + 1) (T k) (U k) (V k)) := HAA.out.below hb2
          have HO3 : Hid (w2.ownsRow w1.heap.size 5 1 v M ((linesL T U V bt bu bv k ++ pcs L1 L2 L3 1).map (Value.int .u8))) := (HOO.out.below hb2).1
          have HN3 : Hid (∀ j u, (L2.map (Value.int .u8))[j]? = some u → w2.cell? ((⟨g2, 0, none⟩ : Addr).add j) = some u) := hn2
          have hs3 := HB3.out.size
          clear y0 x0 x1 x2 x3 x4 x5 x6 x7 x8 x9 xa xb hb2 hn2 HB2 HAA HOO h4
          go_wp2_with (first
            | (refine app8 rfl (.tmp 31) (.tmp 33) rfl w1.heap.size v M (linesL T U V bt bu bv k ++ pcs L1 L2 L3 1) rfl HO3 ⟨g2, 0, none⟩ L2.length _ L2 rfl rfl HN3 (by omega) (M + L2.length) rfl (linesL T U V bt bu bv k ++ pcs L1 L2 L3 1 ++ L2) rfl (by omega) hs3 ?_; intro g3 c3 w3 HR3 hgx hax HBx; have hne3 : g3 ≠ wo.heap.size + 1 := away hax.out hne HA3.out.1; have HA4 := HA3.out.grown hgx.out hne; have HB4 : Hid (Below w1.heap.size w1 w3) := HB3.out.trans HBx.out; clear hgx hax HBx HN3 HO3 hs3 HB3 HA3 hne; have HO4 := (HR3.out.below (bl_a (.cells #[.int .u8 32] 5))).own; have HN4 : Hid (∀ j u, (([32] : List Int).map (Value.int .u8))[j]? = some u → (w3.alloc (.cells #[.int .u8 32] 5)).cell? ((⟨w3.heap.size, 0, none⟩ : Addr).add j) = some u) := one_news w3 32; have HA4a : Hid (At12 (w3.alloc (.cells #[.int .u8 32] 5)) (wo.heap.size + 1) (T k) (U k) (V k)) := HA4.below (bl_a _); have HB4a : Hid (Below w1.heap.size w1 (w3.alloc (.cells #[.int .u8 32] 5))) := HB4.out.alloc HB4.out.size _; have hs4 := HB4a.out.size; have hne := own_ne (n := M + L2.length) (c := c3) hne3; clear HR3 HA4 HB4)
            | (refine app8 rfl (.tmp 34) (.tmp 35) rfl w1.heap.size (.slice (some ⟨g3, 0, none⟩) (M + L2.length) c3) (M + L2.length) (linesL T U V bt bu bv k ++ pcs L1 L2 L3 1 ++ L2) rfl HO4 ⟨w3.heap.size, 0, none⟩ 1 1 [32] rfl rfl HN4 (by omega) (M + L2.length + 1) rfl (linesL T U V bt bu bv k ++ pcs L1 L2 L3 1 ++ L2 ++ [32]) rfl (by omega) hs4 ?_; intro g5 c5 w5 HR5 hgx hax HBx; have hne5 : g5 ≠ wo.heap.size + 1 := away hax.out hne HA4a.out.1; have HA5 : Hid (At12 w5 (wo.heap.size + 1) (T k) (U k) (V k)) := HA4a.out.grown hgx.out hne; have HB5 : Hid (Below w1.heap.size w1 w5) := HB4a.out.trans HBx.out; clear hgx hax HBx HN4 HO4 hs4 HB4a HA4a hne hne3))
          go_roundw
          case rel =>
            refine ⟨2, M + L2.length + 1, _, by omega, by go_num, rfl, by omega, ?_, HB5, HA5, own_ne hne5⟩
            show Own8 _ _ _ _ _
            have h := HR5.out.own8
            simpa [pcs] using h
          case measure => simp [intOf]
        · have hx := HAi.out
          obtain ⟨y0, ⟨x0, x1, x2, x3⟩, ⟨x4, x5, x6, x7⟩, ⟨x8, x9, xa, xb⟩⟩ := hx
          have HB2 : Hid (Below w1.heap.size w1 (wr.alloc (.cells #[.int .i64 (V k).k, .slice (V k).a (V k).len (V k).cap, .int .i64 (V k).n, .int .i64 (V k).s] 24))) := HBi.out.alloc HBi.out.size _
          have HAA : Hid (At12 (wr.alloc (.cells #[.int .i64 (V k).k, .slice (V k).a (V k).len (V k).cap, .int .i64 (V k).n, .int .i64 (V k).s] 24)) (wo.heap.size + 1) (T k) (U k) (V k)) := HAi.out.below (bl_a _)
          have HOO : Hid (Own8 (wr.alloc (.cells #[.int .i64 (V k).k, .slice (V k).a (V k).len (V k).cap, .int .i64 (V k).n, .int .i64 (V k).s] 24)) w1.heap.size v M (linesL T U V bt bu bv k ++ pcs L1 L2 L3 2)) := HOi.out.below (bl_a _)
          have h4 := At4.new wr (.int .i64 (V k).k) (.slice (V k).a (V k).len (V k).cap) (.int .i64 (V k).n) (.int .i64 (V k).s) 24
          go_wp2_with fail
          refine (S3 _ HB2.out).mono ?_
          rintro e w2 ⟨g2, c2, rfl, hn2, hb2⟩
          have HB3 : Hid (Below w1.heap.size w1 w2) := HB2.out.trans (hb2.mono HB2.out.size)
          have HA3 : Hid (At12 w2 (wo.heap.size + 1) (T k) (U k) (V k)) := HAA.out.below hb2
          have HO3 : Hid (w2.ownsRow w1.heap.size 5 1 v M ((linesL T U V bt bu bv k ++ pcs L1 L2 L3 2).map (Value.int .u8))) := (HOO.out.below hb2).1
          have HN3 : Hid (∀ j u, (L3.map (Value.int .u8))[j]? = some u → w2.cell? ((⟨g2, 0, none⟩ : Addr).add j) = some u) := hn2
          have hs3 := HB3.out.size
          clear y0 x0 x1 x2 x3 x4 x5 x6 x7 x8 x9 xa xb hb2 hn2 HB2 HAA HOO h4
          go_wp2_with (first
            | (refine app8 rfl (.tmp 31) (.tmp 33) rfl w1.heap.size v M (linesL T U V bt bu bv k ++ pcs L1 L2 L3 2) rfl HO3 ⟨g2, 0, none⟩ L3.length _ L3 rfl rfl HN3 (by omega) (M + L3.length) rfl (linesL T U V bt bu bv k ++ pcs L1 L2 L3 2 ++ L3) rfl (by omega) hs3 ?_; intro g3 c3 w3 HR3 hgx hax HBx; have hne3 : g3 ≠ wo.heap.size + 1 := away hax.out hne HA3.out.1; have HA4 := HA3.out.grown hgx.out hne; have HB4 : Hid (Below w1.heap.size w1 w3) := HB3.out.trans HBx.out; clear hgx hax HBx HN3 HO3 hs3 HB3 HA3 hne; have HO4 := (HR3.out.below (bl_a (.cells #[.int .u8 32] 5))).own; have HN4 : Hid (∀ j u, (([32] : List Int).map (Value.int .u8))[j]? = some u → (w3.alloc (.cells #[.int .u8 32] 5)).cell? ((⟨w3.heap.size, 0, none⟩ : Addr).add j) = some u) := one_news w3 32; have HA4a : Hid (At12 (w3.alloc (.cells #[.int .u8 32] 5)) (wo.heap.size + 1) (T k) (U k) (V k)) := HA4.below (bl_a _); have HB4a : Hid (Below w1.heap.size w1 (w3.alloc (.cells #[.int .u8 32] 5))) := HB4.out.alloc HB4.out.size _; have hs4 := HB4a.out.size; have hne := own_ne (n := M + L3.length) (c := c3) hne3; clear HR3 HA4 HB4)
            | (refine app8 rfl (.tmp 34) (.tmp 35) rfl w1.heap.size (.slice (some ⟨g3, 0, none⟩) (M + L3.length) c3) (M + L3.length) (linesL T U V bt bu bv k ++ pcs L1 L2 L3 2 ++ L3) rfl HO4 ⟨w3.heap.size, 0, none⟩ 1 1 [32] rfl rfl HN4 (by omega) (M + L3.length + 1) rfl (linesL T U V bt bu bv k ++ pcs L1 L2 L3 2 ++ L3 ++ [32]) rfl (by omega) hs4 ?_; intro g5 c5 w5 HR5 hgx hax HBx; have hne5 : g5 ≠ wo.heap.size + 1 := away hax.out hne HA4a.out.1; have HA5 : Hid (At12 w5 (wo.heap.size + 1) (T k) (U k) (V k)) := HA4a.out.grown hgx.out hne; have HB5 : Hid (Below w1.heap.size w1 w5) := HB4a.out.trans HBx.out; clear hgx hax HBx HN4 HO4 hs4 HB4a HA4a hne hne3))
          go_roundw
          case rel =>
            refine ⟨3, M + L3.length + 1, _, by omega, by go_num, rfl, by omega, ?_, HB5, HA5, own_ne hne5⟩
            show Own8 _ _ _ _ _
            have h := HR5.out.own8
            simpa [pcs] using h
          case measure => simp [intOf]
        · have hsi := HBi.out.size
          clear S1 S2 S3
          go_wp2_with (refine app8s rfl (.tmp 38) (.const (.string ⟨#[46, 10]⟩)) rfl w1.heap.size v M (linesL T U V bt bu bv k ++ pcs L1 L2 L3 3) rfl HOi ⟨#[46, 10]⟩ rfl (by decide) (M + 2) rfl (linesL T U V bt bu bv k ++ pcs L1 L2 L3 3 ++ [46, 10]) rfl (by omega) hsi ?_; intro g6 c6 w6 HR6 HBx; have HB6 : Hid (Below w1.heap.size w1 w6) := HBi.out.trans HBx.out; clear HBx)
          go_roundw
          case rel =>
            refine ⟨k + 1, M + 2, _, by omega, by go_num, rfl, by omega, ?_, HB6⟩
            show Own8 _ _ _ _ _
            have h := HR6.out.own8
            rw [HL1.out]
            simpa [pcs] using h
          case measure => simp [intOf]; omega
    · obtain rfl : k = n := by omega
      have HL := HLEN.out k (Nat.le_refl _)
      obtain ⟨a', cp, rfl, hnw⟩ := HO.out.nw HBY.out (by omega)
      have hlen := HO.out.len
      have HNW : Hid (Nw wo w1.heap.size a' N (linesL T U V bt bu bv k)) := hnw
      have HLN : Hid ((linesL T U V bt bu bv k).length = N) := hlen
      clear hnw hlen
      go_wp2_with fail
      go_ret2
      refine ⟨a', cp, by rw [HLN.out]; rfl, ?_, HW.out _ HB.out⟩
      rw [HLN.out]
      exact HNW.out.mono HW1.out.size
end Go.Proofs.YtoclingolfdfeaaGreatDoor

/- ShwK -/
namespace Go.Proofs.YtoclingolfdfeaaGreatDoor
open Go.RowKit Go.Deep
set_option maxRecDepth 100000

/-- A text that is marked from k on. -/
def Marked (w : World) (a : Option Addr) (len : Nat) (k : Int) : Prop := len = 0 ∨ ∃ g, a = some ⟨g, 0, none⟩ ∧ g < w.heap.size ∧ ∀ i, i < len → w.cell? ⟨g, i, none⟩ = some (.int .u8 ((k + (i : Nat)) % 256))
theorem Marked.below {w w' : World} {a : Option Addr} {len : Nat} {k : Int} (h : Marked w a len k) (hb : Below w.heap.size w w') : Marked w' a len k := by
  rcases h with h | ⟨g, ha, hl, hc⟩
  · exact .inl h
  · exact .inr ⟨g, ha, Nat.lt_of_lt_of_le hl hb.size, fun i hi => (hb.cell (p := ⟨g, i, none⟩) hl).trans (hc i hi)⟩
theorem Nw.but {w w' : World} {B g len : Nat} {a : Option Addr} {bs : List Int} (h : Nw w B a len bs) (hb : But g w w') (hg : g < B) : Nw w' B a len bs := by
  rcases h with h | ⟨g', ha, hB, ho⟩
  · exact .inl h
  · exact .inr ⟨g', ha, hB, ho.but hb (by omega)⟩

end Go.Proofs.YtoclingolfdfeaaGreatDoor

/- GtxE -/
namespace Go.Proofs.YtoclingolfdfeaaGreatDoor
open Go.RowKit Go.Deep
set_option maxRecDepth 100000

theorem specGraphText_any (a : Option Addr) (n cap : Nat) (T U V : Nat → Tm) (bt bu bv : Nat → List Int) (w : World) (hn : n ≤ 1048576) (hf : AllFit n T U V) (hR : Rows w a n T U V) (h1 : Texts w n T bt) (h2 : Texts w n U bu) (h3 : Texts w n V bv) :
    Calls Tryz.prog 17 #[.agg #[.slice a n cap]] w fun e w' => GtRes w (graphOk n T U V bt bu bv) (textL n T U V bt bu bv) e w' := by
  have O := fun (w' : World) (hq : Below w.heap.size w w') => specGraphOk_any a n cap T U V bt bu bv w' hn hf (hR.below hq) (h1.below hq) (h2.below hq) (h3.below hq)
  cases hok : graphOk n T U V bt bu bv
  · have e : textL n T U V bt bu bv = [] := by simp [textL, hok]
    rw [e]
    rw [hok] at O
    clear hR h1 h2 h3 hf
    go_enter Tryz.func17, Tryz.ntmps17
    go_wp2_with fail
    refine (O _ (bl_a _)).mono ?_
    rintro e w1 ⟨rfl, hb1⟩
    have HB1 : Hid (Below w.heap.size w w1) := bl_trans (bl_a _) hb1
    clear hb1 O
    go_wp2_with fail
    go_ret2
    exact ⟨none, 0, rfl, Nw.nil _ _, HB1.out⟩
  · have e : textL n T U V bt bu bv = linesL T U V bt bu bv n := by simp [textL, hok]
    rw [e]
    rw [hok] at O
    obtain ⟨hn60, hst⟩ := graphOk_out hok
    have X := fun (w' : World) (hq : Below w.heap.size w w') => l2text_any a n cap T U V bt bu bv w' hn60 (hR.below hq) (h1.below hq) (h2.below hq) (h3.below hq) (fun i hi => stepOk_terms (hst i hi))
    clear hR h1 h2 h3 hf hok e hst
    generalize linesL T U V bt bu bv n = L at *
    go_enter Tryz.func17, Tryz.ntmps17
    go_wp2_with fail
    refine (O _ (bl_a _)).mono ?_
    rintro e w1 ⟨rfl, hb1⟩
    have hB1 := bl_trans (bl_a _) hb1
    have hbox : w1.cell? ⟨w.heap.size, 0, none⟩ = some (.slice a n cap) := (hb1.cell (p := ⟨w.heap.size, 0, none⟩) (by simp)).trans (by simp [go_sem])
    clear hb1 O
    go_wp2_with fail
    refine (X _ hB1).mono ?_
    intro e w2 hR
    have hR' := hR.later hB1
    clear hR X
    obtain ⟨x, cp, rfl, hr, hb⟩ := hR'
    have HR : Hid (Nw w2 w.heap.size x L.length L) := hr
    have HB : Hid (Below w.heap.size w w2) := hb
    clear hr hb
    go_wp2_with fail
    go_ret2
    exact ⟨x, cp, rfl, HR.out, HB.out⟩

end Go.Proofs.YtoclingolfdfeaaGreatDoor

/- ReJ -/
namespace Go.Proofs.YtoclingolfdfeaaGreatDoor
open Go.RowKit Go.Deep
set_option maxRecDepth 100000

/-- A row of triples of the call's own, as GraphText's contracts ask. -/
theorem rows_own {w : World} {C : Nat} {a : Option Addr} {cap : Nat} {r : List G1} (h : OwnG w C (.slice a r.length cap) r) : Rows w a r.length (fun i => (gA r i).t) (fun i => (gA r i).u) (fun i => (gA r i).v) := rows_gA h
theorem linesT_append (a b : List T3) : linesT (a ++ b) = linesT a ++ linesT b := by
  induction a with
  | nil => rfl
  | cons x r ih => rw [List.cons_append, linesT, linesT, ih, List.append_assoc]
theorem linesL_T (r : List G1) : ∀ k, k ≤ r.length → linesL (fun i => (gA r i).t) (fun i => (gA r i).u) (fun i => (gA r i).v) (fun i => (gA r i).bt) (fun i => (gA r i).bu) (fun i => (gA r i).bv) k = linesT ((r.take k).map G1.td3)
  | 0, _ => rfl
  | k + 1, hk => by
    rw [linesL, linesL_T r k (by omega), List.take_add_one, List.getElem?_eq_getElem (show k < r.length by omega), List.map_append, linesT_append]
    simp only [gA_at (show k < r.length by omega)]
    congr 1
    simp [linesT, lineT, lineL, G1.td3, TD.sh, Tm.show]
theorem graphOk_own {r : List G1} (hn : r.length ≤ 60) (hg : ∀ y ∈ r, y.good) (hs : (r.map G1.td3).Pairwise (fun x y => cmpD x y < 0)) : graphOk r.length (fun i => (gA r i).t) (fun i => (gA r i).u) (fun i => (gA r i).v) (fun i => (gA r i).bt) (fun i => (gA r i).bu) (fun i => (gA r i).bv) = true := by
  unfold graphOk
  rw [Bool.and_eq_true, List.all_eq_true]
  refine ⟨decide_eq_true hn, fun i hi => ?_⟩
  have hi : i < r.length := by simpa using hi
  unfold stepOk
  simp only [gA_at hi]
  rw [Bool.and_eq_true]
  refine ⟨(hg r[i] (List.getElem_mem hi)).2.2.2, ?_⟩
  by_cases h0 : i = 0
  · simp [h0]
  · have hp : i - 1 < r.length := by omega
    simp only [gA_at hp]
    rw [Bool.or_eq_true]
    right
    refine decide_eq_true ?_
    rw [tcmp3_td]
    have := List.pairwise_iff_getElem.1 hs (i - 1) i (by simpa using hp) (by simpa using hi) (by omega)
    simpa using this
/-- What GraphText of either side tells of it. -/
theorem text_own {w : World} {C : Nat} {a : Option Addr} {cap : Nat} {r : List G1} (h : OwnG w C (.slice a r.length cap) r) (hn : r.length ≤ 60) (hg : ∀ y ∈ r, y.good) (hl : ∀ y ∈ r, y.lies w) (hs : (r.map G1.td3).Pairwise (fun x y => cmpD x y < 0)) :
    (Tab w → Calls Tryz.prog 14 #[.agg #[.slice a r.length cap]] w (GtRes w true (linesT (r.map G1.td3)))) ∧ Calls Tryz.prog 17 #[.agg #[.slice a r.length cap]] w (GtRes w true (linesT (r.map G1.td3))) := by
  have hk := graphOk_own hn hg hs
  have ht := linesL_T r r.length (Nat.le_refl _)
  rw [List.take_length] at ht
  have hf : AllFit r.length (fun i => (gA r i).t) (fun i => (gA r i).u) (fun i => (gA r i).v) := fun i hi => by
    have := hg r[i] (List.getElem_mem hi)
    simp only [gA_at hi]
    exact ⟨this.1, this.2.1, this.2.2.1⟩
  have h1 : Texts w r.length (fun i => (gA r i).t) (fun i => (gA r i).bt) := fun i hi => by
    simp only [gA_at hi]
    exact (hl r[i] (List.getElem_mem hi)).1
  have h2 : Texts w r.length (fun i => (gA r i).u) (fun i => (gA r i).bu) := fun i hi => by
    simp only [gA_at hi]
    exact (hl r[i] (List.getElem_mem hi)).2.1
  have h3 : Texts w r.length (fun i => (gA r i).v) (fun i => (gA r i).bv) := fun i hi => by
    simp only [gA_at hi]
    exact (hl r[i] (List.getElem_mem hi)).2.2
  have e : textL r.length (fun i => (gA r i).t) (fun i => (gA r i).u) (fun i => (gA r i).v) (fun i => (gA r i).bt) (fun i => (gA r i).bu) (fun i => (gA r i).bv) = linesT (r.map G1.td3) := by
    unfold textL
    rw [if_pos hk, ht]
  refine ⟨fun hT => ?_, ?_⟩
  · have := implGraphText_any a r.length cap _ _ _ _ _ _ w (by omega) hf (rows_own h) h1 h2 h3 hT
    rw [hk, e] at this
    exact this
  · have := specGraphText_any a r.length cap _ _ _ _ _ _ w (by omega) hf (rows_own h) h1 h2 h3
    rw [hk, e] at this
    exact this
end Go.Proofs.YtoclingolfdfeaaGreatDoor

/- ReK -/
namespace Go.Proofs.YtoclingolfdfeaaGreatDoor
open Go.RowKit Go.Deep
set_option maxRecDepth 100000

theorem G1.good.okT {y : G1} (h : y.good) : okT y.td3 := by
  have h := h.2.2.2
  unfold tripleOk at h
  simp only [Bool.and_eq_true, decide_eq_true_eq, beq_iff_eq] at h
  exact ⟨h.1.1.1.1, h.1.1.1.2, h.1.1.2, h.1.2, h.2⟩
theorem okT.fine {x : T3} (h : okT x) : fine3 x := ⟨⟨h.1, byt_of_ok h.1⟩, ⟨h.2.1, byt_of_ok h.2.1⟩, h.2.2.1, byt_of_ok h.2.2.1⟩
theorem OnceT.self {l : List T3} (h : l.Pairwise (fun x y => cmpD x y < 0)) : OnceT l l := ⟨h, fun _ => Iff.rfl⟩
/-- A graph's text that is not too long is read as that graph. -/
theorem GrRes.lines {len : Nat} {w w' : World} {e : Ending} {l : List T3} (h : GrRes (linesT l) len w e w') (hl : len ≤ 3000) (ho : ∀ x ∈ l, okT x) (hs : l.Pairwise (fun x y => cmpD x y < 0)) (hn : l.length ≤ 60) :
    Below w.heap.size w w' ∧ ∃ a cap r, ReadWell (linesT l) len w w' a cap r ∧ r.map G1.td3 = l ∧ e = .returned (.tuple #[.agg #[.slice a r.length cap], .int .i64 0, .int .i64 0]) :=
  h.read hl (lines_read ho len) (fun t ht => (ho t ht).fine) (OnceT.self hs) hn
theorem ReadWell.asc {bs : List Int} {len : Nat} {w w' : World} {a : Option Addr} {cap : Nat} {r : List G1} (h : ReadWell bs len w w' a cap r) : (r.map G1.td3).Pairwise (fun x y => cmpD x y < 0) := by
  obtain ⟨ts, _, ho⟩ := h.ts
  exact ho.asc
theorem ReadWell.ok {bs : List Int} {len : Nat} {w w' : World} {a : Option Addr} {cap : Nat} {r : List G1} (h : ReadWell bs len w w' a cap r) : ∀ x ∈ r.map G1.td3, okT x := fun x hx => by
  obtain ⟨y, hy, rfl⟩ := List.mem_map.1 hx
  exact (h.good y hy).1.okT
theorem ReadWell.short {bs : List Int} {len : Nat} {w w' : World} {a : Option Addr} {cap : Nat} {r : List G1} (h : ReadWell bs len w w' a cap r) : 2 * (linesT (r.map G1.td3)).length ≤ 3 * bs.length := by
  obtain ⟨ts, hr, ho⟩ := h.ts
  exact reads_len hr ho
/-- What was read, written as a text that is not too long, is read the same. -/
theorem ReadWell.again {bs : List Int} {len len' : Nat} {w w' v v' : World} {e : Ending} {a : Option Addr} {cap : Nat} {r : List G1} (h : ReadWell bs len w w' a cap r) (hl : len' ≤ 3000) (hg : GrRes (linesT (r.map G1.td3)) len' v e v') :
    Below v.heap.size v v' ∧ ∃ a' cap' r', ReadWell (linesT (r.map G1.td3)) len' v v' a' cap' r' ∧ r'.map G1.td3 = r.map G1.td3 ∧ e = .returned (.tuple #[.agg #[.slice a' r'.length cap'], .int .i64 0, .int .i64 0]) :=
  hg.lines hl h.ok h.asc (by rw [List.length_map]; exact h.few)
/-- A text that ends in three thousand noughts is never read. -/
theorem zeros_not {b : List Int} {len : Nat} {ts : List T3} (hl : (b ++ List.replicate 3000 (0 : Int)).length = len) (h : len ≤ 3000) (hr : Reads (b ++ List.replicate 3000 (0 : Int)) len ts) : False := by
  have hb : b = [] := by
    rw [List.length_append, List.length_replicate] at hl
    exact List.eq_nil_of_length_eq_zero (by omega)
  subst hb
  obtain ⟨toks, h1, _⟩ := hr
  rw [List.nil_append, List.replicate_succ, lexR_bad 0 (by decide) (by simp [tokOf, digit, great, signB])] at h1
  cases h1
/-- How long the text of a triple is. -/
theorem name_most {t : TD} (h : t.ok = true) (hk : t.k ≤ 1) : t.sh.length ≤ 14 := by
  obtain ⟨k, bs, n, s⟩ := t
  have h : termOk k bs n s = true := h
  unfold termOk at h
  split at h
  · rename_i hk
    simp only [nameOk, Bool.and_eq_true, decide_eq_true_eq] at h
    have := h.1.1.1.1.2
    simp [TD.sh, showL, hk]
    omega
  split at h
  · rename_i h0 hk
    simp only [Bool.and_eq_true, decide_eq_true_eq, beq_iff_eq] at h
    have := digitsL_len 5 n.toNat (by have := h.1.2; omega)
    simp [TD.sh, showL, hk]
    omega
  · rename_i h0 h1
    have hk : k ≤ 1 := hk
    split at h
    · omega
    split at h
    · omega
    · cases h
theorem lineT_most {x : T3} (h : okT x) : (lineT x).length ≤ 97 := by
  have n1 := name_most h.1 h.2.2.2.1
  have n2 := name_most h.2.1 (by have := h.2.2.2.2; omega)
  have n3 : x.2.2.sh.length ≤ 64 := (showL_len h.2.2.1).2
  rw [lineT_len]
  unfold triLen
  omega
theorem linesT_most : ∀ {l : List T3}, (∀ x ∈ l, okT x) → (linesT l).length ≤ 97 * l.length
  | [], _ => by simp [linesT]
  | x :: r, h => by
    have h1 := lineT_most (h x (List.mem_cons_self ..))
    have h2 := linesT_most (l := r) fun y hy => h y (List.mem_cons_of_mem _ hy)
    rw [linesT, List.length_append, List.length_cons]
    omega
end Go.Proofs.YtoclingolfdfeaaGreatDoor

/- ReP -/
namespace Go.Proofs.YtoclingolfdfeaaGreatDoor
open Go.RowKit Go.Deep
set_option maxRecDepth 100000

theorem cmpD_lt {x y z : T3} (h1 : cmpD x y < 0) (h2 : cmpD y z < 0) : cmpD x z < 0 := by
  have h := ord_cmpD
  have h3 := h.trans x y z (by omega) (by omega)
  have a1 := h.anti x z
  have a3 := h.anti x y
  have : ¬ cmpD z x ≤ 0 := fun h4 => by
    have := h.trans z x y h4 (by omega)
    have a2 := h.anti y z
    omega
  omega
theorem graphOk_asc {r : List G1} (h : graphOk r.length (fun i => (gA r i).t) (fun i => (gA r i).u) (fun i => (gA r i).v) (fun i => (gA r i).bt) (fun i => (gA r i).bu) (fun i => (gA r i).bv) = true) :
    r.length ≤ 60 ∧ (∀ y ∈ r, tripleOk y.t y.u y.v y.bt y.bu y.bv = true) ∧ (r.map G1.td3).Pairwise (fun x y => cmpD x y < 0) := by
  unfold graphOk at h
  rw [Bool.and_eq_true, List.all_eq_true] at h
  obtain ⟨h1, h2⟩ := h
  have hst : ∀ i (hi : i < r.length), tripleOk r[i].t r[i].u r[i].v r[i].bt r[i].bu r[i].bv = true ∧ ∀ (h0 : i ≠ 0), cmpD (r[i - 1]'(by omega)).td3 r[i].td3 < 0 := fun i hi => by
    have := h2 i (by simpa using hi)
    unfold stepOk at this
    simp only [gA_at hi] at this
    rw [Bool.and_eq_true] at this
    refine ⟨this.1, fun h0 => ?_⟩
    have hp : i - 1 < r.length := by omega
    simp only [gA_at hp] at this
    rcases Bool.or_eq_true_iff.1 this.2 with h3 | h3
    · simp at h3
      omega
    · have h3 := of_decide_eq_true h3
      rw [tcmp3_td] at h3
      exact h3
  refine ⟨of_decide_eq_true h1, fun y hy => ?_, ?_⟩
  · obtain ⟨i, hi, rfl⟩ := List.getElem_of_mem hy
    exact (hst i hi).1
  · rw [List.pairwise_iff_getElem]
    intro i j hi hj hij
    rw [List.length_map] at hi hj
    simp only [List.getElem_map]
    obtain ⟨d, rfl⟩ : ∃ d, j = i + 1 + d := ⟨j - i - 1, by omega⟩
    clear hij
    induction d with
    | zero =>
      have := (hst (i + 1) hj).2 (by omega)
      simpa using this
    | succ d ih =>
      have h3 := ih (by simp only [List.length_map]; omega) (by omega)
      have h4 := (hst (i + 1 + (d + 1)) hj).2 (by omega)
      exact cmpD_lt h3 (by simpa using h4)
end Go.Proofs.YtoclingolfdfeaaGreatDoor

/- ReU -/
namespace Go.Proofs.YtoclingolfdfeaaGreatDoor
open Go.RowKit Go.Deep
set_option maxRecDepth 100000

theorem GY.base {w : World} {B B' : Nat} {y : G1} (h : GY w B y) (hB : B' ≤ B) : GY w B' y := ⟨h.t.mono hB (Nat.le_refl _) (Nat.le_refl _), h.u.mono hB (Nat.le_refl _) (Nat.le_refl _), h.v.mono hB (Nat.le_refl _) (Nat.le_refl _)⟩
/-- What DrawGraphText answers. -/
def GTDrawn (w : World) (e : Ending) (w' : World) : Prop :=
  ∃ (a : Option Addr) (cap : Nat) (l : List G1), e = .returned (.agg #[.slice a l.length cap]) ∧ l.length ≤ 61 ∧ OwnG w' w.heap.size (.slice a l.length cap) l ∧ (∀ y ∈ l, GY w' w.heap.size y) ∧ Below w.heap.size w w'
set_option maxHeartbeats 4000000 in
theorem drawGraphText_any (a : Option Addr) (len cap : Nat) (w : World) (hlen : len ≤ 9223372036854775807) (hC : Code w a len) :
    Calls Tryz.prog 13 #[.slice a len cap] w (GTDrawn w) := by
  have NW := fun w h => l1New_any a len cap w hlen h
  have HC : Hid (∀ o, Code (w.alloc o) a len) := by
    intro o
    rcases hC with hc | ⟨b, off, ha, hlt, hc⟩
    · exact .inl hc
    · refine .inr ⟨b, off, ha, Nat.lt_of_lt_of_le hlt (by simp), fun i hi => ?_⟩
      rw [(bl_a (w := w) o).cell (p := ⟨b, off + i, none⟩) hlt]
      exact hc i hi
  clear hC
  go_enter Tryz.func13, Tryz.ntmps13
  go_wp2_with fail
  refine (NW _ (HC.out _)).mono ?_
  rintro e w1 ⟨rfl, hb1, hC1⟩
  have x1 : w1.cell? ⟨w.heap.size, 0, none⟩ = some (.slice none 0 0) := (hb1.cell (p := ⟨w.heap.size, 0, none⟩) (by simp)).trans (by simp [go_sem])
  have x2 : w1.frozen? ⟨w.heap.size, 0, none⟩ = false := ((Past.of_below hb1 : Past 0 _ w1) |> fun _ => (World.frozen?_of_block (hb1.block w.heap.size (by simp)))).trans (by simp [go_sem])
  have hs1 := hb1.size
  simp at hs1 hC1
  have hw1 : Below w.heap.size w w1 := bl_trans (bl_a _) hb1
  clear hb1 NW HC
  go_wp2_with fail
  refine (l2bent_any _ a len cap _ hlen hC1).mono ?_
  rintro e w2 ⟨v, l, rfl, hO, hl, hG, hP, hC2⟩
  obtain ⟨b, n, c, rfl⟩ := hO.slice
  have y1 := (hP.cell (p := ⟨w.heap.size, 0, none⟩) (by show w.heap.size < _; omega) (by show w.heap.size ≠ w.heap.size + 1; omega)).trans x1
  have y2 := (hP.frozen (p := ⟨w.heap.size, 0, none⟩) (by show w.heap.size < _; omega) (by show w.heap.size ≠ w.heap.size + 1; omega)).trans x2
  have HB : Hid (GTDrawn w (.returned (.agg #[.slice b n c])) (w2.setCell ⟨w.heap.size, 0, none⟩ (.slice b n c))) := by
    have hQ : Past w.heap.size w2 (w2.setCell ⟨w.heap.size, 0, none⟩ (.slice b n c)) := (Past.refl w.heap.size w2).set 0 _
    have hP' : Below w.heap.size w (w2.setCell ⟨w.heap.size, 0, none⟩ (.slice b n c)) := (hw1.trans (hP.below (by omega) hw1.size)).setCell (p := ⟨w.heap.size, 0, none⟩) (Nat.le_refl _) _
    have hn := hO.len
    have hO' := hO.past hQ (by omega)
    have hG' := fun y hy => (hG y hy).past hQ (by omega)
    subst hn
    exact ⟨b, c, l, rfl, hl, hO'.base (by omega), fun y hy => (hG' y hy).base (by omega), hP'⟩
  clear hO hG hP hC2 x1 x2 hw1 hC1
  go_wp2_with fail
  have y0 := set_same y1 (v := .slice b n c)
  exact bodyPost_ret (v := .agg #[.slice b n c]) (by simp [results, Tryz.results13, go_sem, y0]) rfl HB.out
theorem code_below {w w' : World} {a : Option Addr} {len : Nat} (h : Code w a len) (hb : Below w.heap.size w w') : Code w' a len := by
  rcases h with hc | ⟨b, off, ha, hlt, hc⟩
  · exact .inl hc
  · refine .inr ⟨b, off, ha, Nat.lt_of_lt_of_le hlt hb.size, fun i hi => ?_⟩
    rw [hb.cell (p := ⟨b, off + i, none⟩) hlt]
    exact hc i hi
/-- Whether a row of triples may be, and what its text is. -/
def rowOk (l : List G1) : Bool := graphOk l.length (fun i => (gA l i).t) (fun i => (gA l i).u) (fun i => (gA l i).v) (fun i => (gA l i).bt) (fun i => (gA l i).bu) (fun i => (gA l i).bv)
def rowText (l : List G1) : List Int := textL l.length (fun i => (gA l i).t) (fun i => (gA l i).u) (fun i => (gA l i).v) (fun i => (gA l i).bt) (fun i => (gA l i).bu) (fun i => (gA l i).bv)
structure RowCalls (w : World) (l : List G1) (a : Option Addr) (cap : Nat) : Prop where
  text : ∀ W, Below w.heap.size w W → Tab W → Calls Tryz.prog 14 #[.agg #[.slice a l.length cap]] W (GtRes W (rowOk l) (rowText l))
  okS : ∀ W, Below w.heap.size w W → Calls Tryz.prog 15 #[.agg #[.slice a l.length cap]] W fun e w' => e = .returned (.bool (rowOk l)) ∧ Below W.heap.size W w'
  okI : ∀ W, Below w.heap.size w W → Calls Tryz.prog 16 #[.agg #[.slice a l.length cap]] W fun e w' => e = .returned (.bool (rowOk l)) ∧ Below W.heap.size W w'
theorem row_calls {w : World} {B : Nat} {a : Option Addr} {cap : Nat} {l : List G1} (hl : l.length ≤ 61) (hO : OwnG w B (.slice a l.length cap) l) (hG : ∀ y ∈ l, GY w B y) : RowCalls w l a cap := by
  have hf : AllFit l.length (fun i => (gA l i).t) (fun i => (gA l i).u) (fun i => (gA l i).v) := fun i hi => by
    have := hG _ (List.getElem_mem hi)
    simp only [gA_at hi]
    exact ⟨this.t.fit, this.u.fit, this.v.fit⟩
  have h1 : Texts w l.length (fun i => (gA l i).t) (fun i => (gA l i).bt) := fun i hi => by
    simp only [gA_at hi]
    exact (hG _ (List.getElem_mem hi)).t.bs
  have h2 : Texts w l.length (fun i => (gA l i).u) (fun i => (gA l i).bu) := fun i hi => by
    simp only [gA_at hi]
    exact (hG _ (List.getElem_mem hi)).u.bs
  have h3 : Texts w l.length (fun i => (gA l i).v) (fun i => (gA l i).bv) := fun i hi => by
    simp only [gA_at hi]
    exact (hG _ (List.getElem_mem hi)).v.bs
  have hR := rows_gA hO
  refine ⟨fun W hb hT => ?_, fun W hb => ?_, fun W hb => ?_⟩
  · exact implGraphText_any a l.length cap _ _ _ _ _ _ W (by omega) hf (hR.below hb) (h1.below hb) (h2.below hb) (h3.below hb) hT
  · exact specGraphOk_any a l.length cap _ _ _ _ _ _ W (by omega) hf (hR.below hb) (h1.below hb) (h2.below hb) (h3.below hb)
  · exact implGraphOk_any a l.length cap _ _ _ _ _ _ W (by omega) hf (hR.below hb) (h1.below hb) (h2.below hb) (h3.below hb)
theorem row_text {l : List G1} (h : rowOk l = true) : rowText l = linesT (l.map G1.td3) ∧ (∀ x ∈ l.map G1.td3, okT x) ∧ (l.map G1.td3).Pairwise (fun x y => cmpD x y < 0) ∧ l.length ≤ 60 := by
  obtain ⟨h1, h2, h3⟩ := graphOk_asc h
  refine ⟨?_, fun x hx => ?_, h3, h1⟩
  · unfold rowText textL
    unfold rowOk at h
    rw [if_pos h]
    have := linesL_T l l.length (Nat.le_refl _)
    rwa [List.take_length] at this
  · obtain ⟨y, hy, rfl⟩ := List.mem_map.1 hx
    have := h2 y hy
    unfold tripleOk at this
    simp only [Bool.and_eq_true, decide_eq_true_eq, beq_iff_eq] at this
    exact ⟨this.1.1.1.1, this.1.1.1.2, this.1.1.2, this.1.2, this.2⟩
theorem rowTx_most {l : List G1} (h : ∀ y ∈ l, S3K y.t y.u y.v y.bt y.bu y.bv) : (rowTx l).length ≤ 97 * l.length := by
  have e : rowTx l = linesT (l.map G1.td3) := by
    have := linesL_T l l.length (Nat.le_refl _)
    rwa [List.take_length] at this
  rw [e]
  have := linesT_most (l := l.map G1.td3) fun x hx => by
    obtain ⟨y, hy, rfl⟩ := List.mem_map.1 hx
    have := h y hy
    exact ⟨this.1.2.1, this.2.1.2.1, this.2.2.2.1, this.1.2.2, this.2.1.2.2⟩
  rwa [List.length_map] at this
/-- What was read of a drawn text is written as a text that is not too long. -/
theorem drawn_short {bs : List Int} {len : Nat} {w w' : World} {a : Option Addr} {cap : Nat} {r : List G1} (hl : bs.length = len) (h : ReadWell bs len w w' a cap r)
    (hor : (∃ l : List G1, l.length ≤ 20 ∧ (∀ y ∈ l, S3K y.t y.u y.v y.bt y.bu y.bv) ∧ bs.length ≤ (rowTx l).length + 4) ∨ ∃ b, bs = b ++ List.replicate 3000 (0 : Int)) : (linesT (r.map G1.td3)).length ≤ 3000 := by
  have hs := h.short
  rcases hor with ⟨l, h1, h2, h3⟩ | ⟨b, rfl⟩
  · have := rowTx_most h2
    omega
  · obtain ⟨ts, hr, _⟩ := h.ts
    exact (zeros_not hl h.le hr).elim
theorem ReadWell.lies {bs : List Int} {len : Nat} {w w' : World} {a : Option Addr} {cap : Nat} {r : List G1} (h : ReadWell bs len w w' a cap r) : ∀ y ∈ r, y.lies w' := fun y hy => ⟨(h.txt y hy).1.bs, (h.txt y hy).2.1.bs, (h.txt y hy).2.2.bs⟩
theorem G1.lies.below {w w' : World} {y : G1} (h : y.lies w) (hb : Below w.heap.size w w') : y.lies w' := ⟨h.1.below hb, h.2.1.below hb, h.2.2.below hb⟩
/-- What GraphText of either side tells of a graph that was read. -/
theorem read_text {bs : List Int} {len : Nat} {w w' W : World} {a : Option Addr} {cap : Nat} {r : List G1} (h : ReadWell bs len w w' a cap r) (hb : Below w'.heap.size w' W) :
    (Tab W → Calls Tryz.prog 14 #[.agg #[.slice a r.length cap]] W (GtRes W true (linesT (r.map G1.td3)))) ∧ Calls Tryz.prog 17 #[.agg #[.slice a r.length cap]] W (GtRes W true (linesT (r.map G1.td3))) := by
  obtain ⟨C, _, ho, _⟩ := h.own
  exact text_own (ho.below hb) h.few (fun y hy => (h.good y hy).1) (fun y hy => (h.lies y hy).below hb) h.asc
theorem none_text (w : World) : Calls Tryz.prog 17 #[.agg #[.slice none 0 0]] w fun e w' => ∃ a n cap q, e = .returned (.tuple #[.slice a n cap, .bool q]) ∧ Below w.heap.size w w' := by
  refine (specGraphText_any none 0 0 (fun _ => Tm0) (fun _ => Tm0) (fun _ => Tm0) (fun _ => []) (fun _ => []) (fun _ => []) w (by omega) (fun i hi => by omega) (.inl rfl) (fun i hi => by omega) (fun i hi => by omega) (fun i hi => by omega)).mono ?_
  rintro e w' ⟨a, cap, rfl, _, hb⟩
  exact ⟨_, _, _, _, rfl, hb⟩
end Go.Proofs.YtoclingolfdfeaaGreatDoor

/- ReF -/
namespace Go.Proofs.YtoclingolfdfeaaGreatDoor
open Go.RowKit Go.Deep
set_option maxRecDepth 100000

theorem sameBytes_likeS (a a' : Option Addr) (len cap len' cap' : Nat) (bs : List Int) (w : World) (h : Bs w a len bs) (h' : Bs w a' len' bs) :
    Calls Tryz.prog 18 #[.slice a len cap, .slice a' len' cap'] w fun e w' => e = .returned (.bool true) ∧ w' = w := by
  have e1 := h.str (cap := cap)
  have e2 := h'.str (cap := cap')
  clear h h'
  go_enter Tryz.func18, Tryz.ntmps18
  go_wp2
  go_ret
  exact ⟨by simp, rfl⟩
end Go.Proofs.YtoclingolfdfeaaGreatDoor
