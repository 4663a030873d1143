/- Graphs as texts: GraphText of the program and of the model. -/
import Derived.Test.YtmpiadlmkeimdaaDoorGtxB
import Derived.Test.YtmpiadlmkeimdaaDoorGraH
namespace Go.Proofs.YtmpiadlmkeimdaaDoor
open Go.RowKit Go.Deep
set_option maxRecDepth 100000

/-- What Show of a term that may be answers. -/
def ShRes (w : World) (L : List Int) (e : Ending) (w' : World) : Prop := ∃ g cap, e = .returned (.slice (some ⟨g, 0, none⟩) L.length cap) ∧ (∀ j u, (L.map (Value.int .u8))[j]? = some u → w'.cell? ((⟨g, 0, none⟩ : Addr).add j) = some u) ∧ Below w.heap.size w w'
theorem implShow_tm (t : Tm) (bs : List Int) (w : World) (hf : t.fits) (hB : Bs w t.a t.len bs) (hok : termOk t.k bs t.n t.s = true) (ht : Tab w) :
    Calls Tryd.prog 8 #[.agg #[.int .i64 t.k, .slice t.a t.len t.cap, .int .i64 t.n, .int .i64 t.s]] w fun e w' => ShRes w (t.show bs) e w' := by
  obtain ⟨f1, f2, f3, f4⟩ := hf
  refine (implShow_any t.k t.n t.s t.a t.len t.cap bs w hB f1 f2 f3 f4 ht).mono ?_
  have e : shownL t.k t.n t.s bs = t.show bs := by simp [shownL, hok, Tm.show]
  rw [e]
  have hl := Tm.show_len hok
  rintro e w' ⟨a, cap, rfl, hn, hb⟩
  rcases hn with ⟨_, h0, _⟩ | ⟨g, rfl, _, ho⟩
  · omega
  · exact ⟨g, cap, rfl, bs_news ho.1, hb⟩

/-- The first q terms of a line. -/
def pcs (L1 L2 L3 : List Int) : Nat → List Int
  | 0 => []
  | 1 => L1 ++ [32]
  | 2 => L1 ++ [32] ++ L2 ++ [32]
  | _ => L1 ++ [32] ++ L2 ++ [32] ++ L3 ++ [32]

/-- What GraphText answers. -/
def GtRes (w : World) (ok : Bool) (L : List Int) (e : Ending) (w' : World) : Prop := ∃ a cap, e = .returned (.tuple #[.slice a L.length cap, .bool ok]) ∧ Nw w' w.heap.size a L.length L ∧ Below w.heap.size w w'

set_option maxHeartbeats 4000000 in
theorem implGraphText_any (a : Option Addr) (n cap : Nat) (T U V : Nat → Tm) (bt bu bv : Nat → List Int) (w : World) (hn : n ≤ 1048576) (hf : AllFit n T U V) (hR : Rows w a n T U V) (h1 : Texts w n T bt) (h2 : Texts w n U bu) (h3 : Texts w n V bv) (ht : Tab w) :
    Calls Tryd.prog 17 #[.agg #[.slice a n cap]] w fun e w' => GtRes w (graphOk n T U V bt bu bv) (textL n T U V bt bu bv) e w' := by
  have O := fun (w' : World) (hq : Below w.heap.size w w') => implGraphOk_any a n cap T U V bt bu bv w' hn hf (hR.below hq) (h1.below hq) (h2.below hq) (h3.below hq)
  cases hok : graphOk n T U V bt bu bv
  · have e : textL n T U V bt bu bv = [] := by simp [textL, hok]
    rw [e]
    rw [hok] at O
    clear hR h1 h2 h3 hf
    go_enter Tryd.func17, Tryd.ntmps17
    go_wp2_with fail
    refine (O _ (bl_a _)).mono ?_
    rintro e w1 ⟨rfl, hb1⟩
    have HB1 : Hid (Below w.heap.size w w1) := bl_trans (bl_a _) hb1
    clear hb1 O
    go_wp2_with fail
    go_ret2
    exact ⟨none, 0, rfl, Nw.nil _ _, HB1.out⟩
  have e : textL n T U V bt bu bv = linesL T U V bt bu bv n := by simp [textL, hok]
  rw [e]
  rw [hok] at O
  obtain ⟨hn60, hst⟩ := graphOk_out hok
  clear hok e
  by_cases hn0 : n = 0
  · subst hn0
    clear hR h1 h2 h3 hf
    go_enter Tryd.func17, Tryd.ntmps17
    go_wp2_with fail
    refine (O _ (bl_a _)).mono ?_
    rintro e w1 ⟨rfl, hb1⟩
    have HB1 : Hid (Below w.heap.size w w1) := bl_trans (bl_a _) hb1
    have hbox : w1.cell? ⟨w.heap.size, 0, none⟩ = some (.slice a 0 cap) := (hb1.cell (p := ⟨w.heap.size, 0, none⟩) (by simp)).trans (by simp [go_sem])
    clear hb1 O
    go_wp2_with fail
    refine wp_loop_rounds 1 ?_
    rw [rounds_succ]
    go_wp2
    go_ret2
    exact ⟨none, 0, rfl, Nw.nil _ _, HB1.out⟩
  obtain ⟨b, off, rfl, hlt, hc⟩ := hR.resolve_left hn0
  have HC : Hid (∀ i, i < n → Row12 w b (off + i * 12) (T i) (U i) (V i)) := hc
  have H1 : Hid (Texts w n T bt) := h1
  have H2 : Hid (Texts w n U bu) := h2
  have H3 : Hid (Texts w n V bv) := h3
  have HF : Hid (AllFit n T U V) := hf
  have HT : Hid (Tab w) := ht
  have HOK : Hid (∀ i, i < n → stepOk T U V bt bu bv i = true) := hst
  have HLEN : Hid (∀ k, k ≤ n → (linesL T U V bt bu bv k).length ≤ k * 200) := fun k hk => linesL_len k (fun j hj => hst j (by omega))
  have HBY : Hid (Byt (linesL T U V bt bu bv n)) := linesL_byt n (fun i hi => (h1 i hi).byt) (fun i hi => (h2 i hi).byt) (fun i hi => (h3 i hi).byt)
  clear hR hc h1 h2 h3 hst hf ht
  go_enter Tryd.func17, Tryd.ntmps17
  go_wp2_with fail
  refine (O _ (bl_a _)).mono ?_
  rintro e w1 ⟨rfl, hb1⟩
  have HW1 : Hid (Below w.heap.size w w1) := bl_trans (bl_a _) hb1
  have hbox : w1.cell? ⟨w.heap.size, 0, none⟩ = some (.slice (some ⟨b, off, none⟩) n cap) := (hb1.cell (p := ⟨w.heap.size, 0, none⟩) (by simp)).trans (by simp [go_sem])
  have HW : Hid (∀ wr, Below w1.heap.size w1 wr → Below w.heap.size w wr) := fun wr h => bl_trans HW1.out h
  clear hb1 O
  go_wp2_with fail
  go_loopw [4, 15] (fun x i wr => ∃ (k N : Nat) (v : Value), k ≤ n ∧ i = .int .i64 k ∧ v = x ∧ N ≤ 12000 ∧ Hid (Own8 wr w1.heap.size v N (linesL T U V bt bu bv k)) ∧ Hid (Below w1.heap.size w1 wr))
    (fun _ i _ => n - (intOf i).toNat)
  case atStart => exact ⟨0, 0, _, Nat.zero_le _, rfl, rfl, by omega, Own8.nil _ _, Below.refl _ _⟩
  case round =>
    obtain ⟨wo, rfl⟩ : ∃ wo, wo = wr := ⟨_, rfl⟩
    obtain ⟨k, N, v, hk, rfl, rfl, hN, HO, HB⟩ := hrel
    by_cases hlk : k < n
    · have hx := (HC.out k hlk).of_block ((HW.out wo HB.out).block b hlt)
      obtain ⟨ok1, ok2, ok3⟩ := stepOk_terms (HOK.out k hlk)
      have hl1 := Tm.show_len ok1
      have hl2 := Tm.show_len ok2
      have hl3 := Tm.show_len ok3
      obtain ⟨f1, f2, f3⟩ := HF.out k hlk
      have S1 := fun (w' : World) (hq : Below w1.heap.size w1 w') => implShow_tm (T k) (bt k) w' f1 ((H1.out k hlk).below (HW.out w' hq)) ok1 (HT.out.below (HW.out w' hq))
      have S2 := fun (w' : World) (hq : Below w1.heap.size w1 w') => implShow_tm (U k) (bu k) w' f2 ((H2.out k hlk).below (HW.out w' hq)) ok2 (HT.out.below (HW.out w' hq))
      have S3 := fun (w' : World) (hq : Below w1.heap.size w1 w') => implShow_tm (V k) (bv k) w' f3 ((H3.out k hlk).below (HW.out w' hq)) ok3 (HT.out.below (HW.out w' hq))
      have HL1 : Hid (linesL T U V bt bu bv (k + 1) = linesL T U V bt bu bv k ++ lineL (T k) (U k) (V k) (bt k) (bu k) (bv k)) := rfl
      have hNk : N + 200 ≤ 12000 := by
        have e1 := HO.out.len
        have e2 := HLEN.out k hk
        omega
      unfold lineL at HL1
      generalize (T k).show (bt k) = L1 at *
      generalize (U k).show (bu k) = L2 at *
      generalize (V k).show (bv k) = L3 at *
      clear ok1 ok2 ok3 f1 f2 f3
      have hne0 : v.ownBlock ≠ some (wo.heap.size + 1) := HO.out.off (Nat.le_succ _)
      have HBa : Hid (Below w1.heap.size w1 ((wo.alloc (.cells (cells12 (T k) (U k) (V k)) 59)).alloc (.cells (cells12 (T k) (U k) (V k)) 27))) := (HB.out.alloc HB.out.size _).alloc (Nat.le_trans HB.out.size (by simp)) _
      have HAa : Hid (At12 ((wo.alloc (.cells (cells12 (T k) (U k) (V k)) 59)).alloc (.cells (cells12 (T k) (U k) (V k)) 27)) (wo.heap.size + 1) (T k) (U k) (V k)) := (Own12.at _ (wo.heap.size + 1) _ _ _ _ (by simp)).1
      have HOa : Hid (Own8 ((wo.alloc (.cells (cells12 (T k) (U k) (V k)) 59)).alloc (.cells (cells12 (T k) (U k) (V k)) 27)) w1.heap.size v N (linesL T U V bt bu bv k ++ pcs L1 L2 L3 0)) := by
        have := HO.out.below (bl_alloc (bl_a (.cells (cells12 (T k) (U k) (V k)) 59)) (.cells (cells12 (T k) (U k) (V k)) 27))
        show Own8 _ _ _ _ _
        rw [show pcs L1 L2 L3 0 = [] from rfl, List.append_nil]
        exact this
      obtain ⟨⟨x0, x1, x2, x3⟩, ⟨x4, x5, x6, x7⟩, ⟨x8, x9, xa, xb⟩⟩ := hx
      clear HO
      go_wp2_with fail
      clear x0 x1 x2 x3 x4 x5 x6 x7 x8 x9 xa xb
      go_loopw [4, 27] (fun x j wr => ∃ (q M : Nat) (v : Value), q ≤ 3 ∧ j = .int .i64 q ∧ v = x ∧ M ≤ N + q * 65 ∧ Hid (Own8 wr w1.heap.size v M (linesL T U V bt bu bv k ++ pcs L1 L2 L3 q)) ∧ Hid (Below w1.heap.size w1 wr) ∧ Hid (At12 wr (wo.heap.size + 1) (T k) (U k) (V k)) ∧ v.ownBlock ≠ some (wo.heap.size + 1))
        (fun _ j _ => 3 - (intOf j).toNat)
      case atStart => exact ⟨0, N, _, by omega, rfl, rfl, by omega, HOa, HBa, HAa, hne0⟩
      case round =>
        clear HOa HBa HAa hne0
        obtain ⟨q, M, v, hq, rfl, rfl, hM, HOi, HBi, HAi, hne⟩ := hrel
        rcases (by omega : q = 0 ∨ q = 1 ∨ q = 2 ∨ q = 3) with rfl | rfl | rfl | rfl
        · have hx := HAi.out
          obtain ⟨y0, ⟨x0, x1, x2, x3⟩, ⟨x4, x5, x6, x7⟩, ⟨x8, x9, xa, xb⟩⟩ := hx
          have HB2 : Hid (Below w1.heap.size w1 (wr.alloc (.cells #[.int .i64 (T k).k, .slice (T k).a (T k).len (T k).cap, .int .i64 (T k).n, .int .i64 (T k).s] 27))) := HBi.out.alloc HBi.out.size _
          have HAA : Hid (At12 (wr.alloc (.cells #[.int .i64 (T k).k, .slice (T k).a (T k).len (T k).cap, .int .i64 (T k).n, .int .i64 (T k).s] 27)) (wo.heap.size + 1) (T k) (U k) (V k)) := HAi.out.below (bl_a _)
          have HOO : Hid (Own8 (wr.alloc (.cells #[.int .i64 (T k).k, .slice (T k).a (T k).len (T k).cap, .int .i64 (T k).n, .int .i64 (T k).s] 27)) w1.heap.size v M (linesL T U V bt bu bv k ++ pcs L1 L2 L3 0)) := HOi.out.below (bl_a _)
          have h4 := At4.new wr (.int .i64 (T k).k) (.slice (T k).a (T k).len (T k).cap) (.int .i64 (T k).n) (.int .i64 (T k).s) 27
          go_wp2_with fail
          refine (S1 _ HB2.out).mono ?_
          rintro e w2 ⟨g2, c2, rfl, hn2, hb2⟩
          have HB3 : Hid (Below w1.heap.size w1 w2) := HB2.out.trans (hb2.mono HB2.out.size)
          have HA3 : Hid (At12 w2 (wo.heap.size + 1) (T k) (U k) (V k)) := HAA.out.below hb2
          have HO3 : Hid (w2.ownsRow w1.heap.size 5 1 v M ((linesL T U V bt bu bv k ++ pcs L1 L2 L3 0).map (Value.int .u8))) := (HOO.out.below hb2).1
          have HN3 : Hid (∀ j u, (L1.map (Value.int .u8))[j]? = some u → w2.cell? ((⟨g2, 0, none⟩ : Addr).add j) = some u) := hn2
          have hs3 := HB3.out.size
          clear y0 x0 x1 x2 x3 x4 x5 x6 x7 x8 x9 xa xb hb2 hn2 HB2 HAA HOO h4
          go_wp2_with (first
            | (refine app8 rfl (.tmp 31) (.tmp 33) rfl w1.heap.size v M (linesL T U V bt bu bv k ++ pcs L1 L2 L3 0) rfl HO3 ⟨g2, 0, none⟩ L1.length _ L1 rfl rfl HN3 (by omega) (M + L1.length) rfl (linesL T U V bt bu bv k ++ pcs L1 L2 L3 0 ++ L1) rfl (by omega) hs3 ?_; intro g3 c3 w3 HR3 hgx hax HBx; have hne3 : g3 ≠ wo.heap.size + 1 := away hax.out hne HA3.out.1; have HA4 := HA3.out.grown hgx.out hne; have HB4 : Hid (Below w1.heap.size w1 w3) := HB3.out.trans HBx.out; clear hgx hax HBx HN3 HO3 hs3 HB3 HA3 hne; have HO4 := (HR3.out.below (bl_a (.cells #[.int .u8 32] 5))).own; have HN4 : Hid (∀ j u, (([32] : List Int).map (Value.int .u8))[j]? = some u → (w3.alloc (.cells #[.int .u8 32] 5)).cell? ((⟨w3.heap.size, 0, none⟩ : Addr).add j) = some u) := one_news w3 32; have HA4a : Hid (At12 (w3.alloc (.cells #[.int .u8 32] 5)) (wo.heap.size + 1) (T k) (U k) (V k)) := HA4.below (bl_a _); have HB4a : Hid (Below w1.heap.size w1 (w3.alloc (.cells #[.int .u8 32] 5))) := HB4.out.alloc HB4.out.size _; have hs4 := HB4a.out.size; have hne := own_ne (n := M + L1.length) (c := c3) hne3; clear HR3 HA4 HB4)
            | (refine app8 rfl (.tmp 34) (.tmp 35) rfl w1.heap.size (.slice (some ⟨g3, 0, none⟩) (M + L1.length) c3) (M + L1.length) (linesL T U V bt bu bv k ++ pcs L1 L2 L3 0 ++ L1) rfl HO4 ⟨w3.heap.size, 0, none⟩ 1 1 [32] rfl rfl HN4 (by omega) (M + L1.length + 1) rfl (linesL T U V bt bu bv k ++ pcs L1 L2 L3 0 ++ L1 ++ [32]) rfl (by omega) hs4 ?_; intro g5 c5 w5 HR5 hgx hax HBx; have hne5 : g5 ≠ wo.heap.size + 1 := away hax.out hne HA4a.out.1; have HA5 : Hid (At12 w5 (wo.heap.size + 1) (T k) (U k) (V k)) := HA4a.out.grown hgx.out hne; have HB5 : Hid (Below w1.heap.size w1 w5) := HB4a.out.trans HBx.out; clear hgx hax HBx HN4 HO4 hs4 HB4a HA4a hne hne3))
          go_roundw
          case rel =>
            refine ⟨1, M + L1.length + 1, _, by omega, by go_num, rfl, by omega, ?_, HB5, HA5, own_ne hne5⟩
            show Own8 _ _ _ _ _
            have h := HR5.out.own8
            simpa [pcs] using h
          case measure => simp [intOf]
        · have hx := HAi.out
          obtain ⟨y0, ⟨x0, x1, x2, x3⟩, ⟨x4, x5, x6, x7⟩, ⟨x8, x9, xa, xb⟩⟩ := hx
          have HB2 : Hid (Below w1.heap.size w1 (wr.alloc (.cells #[.int .i64 (U k).k, .slice (U k).a (U k).len (U k).cap, .int .i64 (U k).n, .int .i64 (U k).s] 27))) := HBi.out.alloc HBi.out.size _
          have HAA : Hid (At12 (wr.alloc (.cells #[.int .i64 (U k).k, .slice (U k).a (U k).len (U k).cap, .int .i64 (U k).n, .int .i64 (U k).s] 27)) (wo.heap.size + 1) (T k) (U k) (V k)) := HAi.out.below (bl_a _)
          have HOO : Hid (Own8 (wr.alloc (.cells #[.int .i64 (U k).k, .slice (U k).a (U k).len (U k).cap, .int .i64 (U k).n, .int .i64 (U k).s] 27)) w1.heap.size v M (linesL T U V bt bu bv k ++ pcs L1 L2 L3 1)) := HOi.out.below (bl_a _)
          have h4 := At4.new wr (.int .i64 (U k).k) (.slice (U k).a (U k).len (U k).cap) (.int .i64 (U k).n) (.int .i64 (U k).s) 27
          go_wp2_with fail
          refine (S2 _ HB2.out).mono ?_
          rintro e w2 ⟨g2, c2, rfl, hn2, hb2⟩
          have HB3 : Hid (Below w1.heap.size w1 w2) := HB2.out.trans (hb2.mono HB2.out.size)
          have HA3 : Hid (At12 w2 (wo.heap.size + 1) (T k) (U k) (V k)) := HAA.out.below hb2
          have HO3 : Hid (w2.ownsRow w1.heap.size 5 1 v M ((linesL T U V bt bu bv k ++ pcs L1 L2 L3 1).map (Value.int .u8))) := (HOO.out.below hb2).1
          have HN3 : Hid (∀ j u, (L2.map (Value.int .u8))[j]? = some u → w2.cell? ((⟨g2, 0, none⟩ : Addr).add j) = some u) := hn2
          have hs3 := HB3.out.size
          clear y0 x0 x1 x2 x3 x4 x5 x6 x7 x8 x9 xa xb hb2 hn2 HB2 HAA HOO h4
          go_wp2_with (first
            | (refine app8 rfl (.tmp 31) (.tmp 33) rfl w1.heap.size v M (linesL T U V bt bu bv k ++ pcs L1 L2 L3 1) rfl HO3 ⟨g2, 0, none⟩ L2.length _ L2 rfl rfl HN3 (by omega) (M + L2.length) rfl (linesL T U V bt bu bv k ++ pcs L1 L2 L3 1 ++ L2) rfl (by omega) hs3 ?_; intro g3 c3 w3 HR3 hgx hax HBx; have hne3 : g3 ≠ wo.heap.size + 1 := away hax.out hne HA3.out.1; have HA4 := HA3.out.grown hgx.out hne; have HB4 : Hid (Below w1.heap.size w1 w3) := HB3.out.trans HBx.out; clear hgx hax HBx HN3 HO3 hs3 HB3 HA3 hne; have HO4 := (HR3.out.below (bl_a (.cells #[.int .u8 32] 5))).own; have HN4 : Hid (∀ j u, (([32] : List Int).map (Value.int .u8))[j]? = some u → (w3.alloc (.cells #[.int .u8 32] 5)).cell? ((⟨w3.heap.size, 0, none⟩ : Addr).add j) = some u) := one_news w3 32; have HA4a : Hid (At12 (w3.alloc (.cells #[.int .u8 32] 5)) (wo.heap.size + 1) (T k) (U k) (V k)) := HA4.below (bl_a _); have HB4a : Hid (Below w1.heap.size w1 (w3.alloc (.cells #[.int .u8 32] 5))) := HB4.out.alloc HB4.out.size _; have hs4 := HB4a.out.size; have hne := own_ne (n := M + L2.length) (c := c3) hne3; clear HR3 HA4 HB4)
            | (refine app8 rfl (.tmp 34) (.tmp 35) rfl w1.heap.size (.slice (some ⟨g3, 0, none⟩) (M + L2.length) c3) (M + L2.length) (linesL T U V bt bu bv k ++ pcs L1 L2 L3 1 ++ L2) rfl HO4 ⟨w3.heap.size, 0, none⟩ 1 1 [32] rfl rfl HN4 (by omega) (M + L2.length + 1) rfl (linesL T U V bt bu bv k ++ pcs L1 L2 L3 1 ++ L2 ++ [32]) rfl (by omega) hs4 ?_; intro g5 c5 w5 HR5 hgx hax HBx; have hne5 : g5 ≠ wo.heap.size + 1 := away hax.out hne HA4a.out.1; have HA5 : Hid (At12 w5 (wo.heap.size + 1) (T k) (U k) (V k)) := HA4a.out.grown hgx.out hne; have HB5 : Hid (Below w1.heap.size w1 w5) := HB4a.out.trans HBx.out; clear hgx hax HBx HN4 HO4 hs4 HB4a HA4a hne hne3))
          go_roundw
          case rel =>
            refine ⟨2, M + L2.length + 1, _, by omega, by go_num, rfl, by omega, ?_, HB5, HA5, own_ne hne5⟩
            show Own8 _ _ _ _ _
            have h := HR5.out.own8
            simpa [pcs] using h
          case measure => simp [intOf]
        · have hx := HAi.out
          obtain ⟨y0, ⟨x0, x1, x2, x3⟩, ⟨x4, x5, x6, x7⟩, ⟨x8, x9, xa, xb⟩⟩ := hx
          have HB2 : Hid (Below w1.heap.size w1 (wr.alloc (.cells #[.int .i64 (V k).k, .slice (V k).a (V k).len (V k).cap, .int .i64 (V k).n, .int .i64 (V k).s] 27))) := HBi.out.alloc HBi.out.size _
          have HAA : Hid (At12 (wr.alloc (.cells #[.int .i64 (V k).k, .slice (V k).a (V k).len (V k).cap, .int .i64 (V k).n, .int .i64 (V k).s] 27)) (wo.heap.size + 1) (T k) (U k) (V k)) := HAi.out.below (bl_a _)
          have HOO : Hid (Own8 (wr.alloc (.cells #[.int .i64 (V k).k, .slice (V k).a (V k).len (V k).cap, .int .i64 (V k).n, .int .i64 (V k).s] 27)) w1.heap.size v M (linesL T U V bt bu bv k ++ pcs L1 L2 L3 2)) := HOi.out.below (bl_a _)
          have h4 := At4.new wr (.int .i64 (V k).k) (.slice (V k).a (V k).len (V k).cap) (.int .i64 (V k).n) (.int .i64 (V k).s) 27
          go_wp2_with fail
          refine (S3 _ HB2.out).mono ?_
          rintro e w2 ⟨g2, c2, rfl, hn2, hb2⟩
          have HB3 : Hid (Below w1.heap.size w1 w2) := HB2.out.trans (hb2.mono HB2.out.size)
          have HA3 : Hid (At12 w2 (wo.heap.size + 1) (T k) (U k) (V k)) := HAA.out.below hb2
          have HO3 : Hid (w2.ownsRow w1.heap.size 5 1 v M ((linesL T U V bt bu bv k ++ pcs L1 L2 L3 2).map (Value.int .u8))) := (HOO.out.below hb2).1
          have HN3 : Hid (∀ j u, (L3.map (Value.int .u8))[j]? = some u → w2.cell? ((⟨g2, 0, none⟩ : Addr).add j) = some u) := hn2
          have hs3 := HB3.out.size
          clear y0 x0 x1 x2 x3 x4 x5 x6 x7 x8 x9 xa xb hb2 hn2 HB2 HAA HOO h4
          go_wp2_with (first
            | (refine app8 rfl (.tmp 31) (.tmp 33) rfl w1.heap.size v M (linesL T U V bt bu bv k ++ pcs L1 L2 L3 2) rfl HO3 ⟨g2, 0, none⟩ L3.length _ L3 rfl rfl HN3 (by omega) (M + L3.length) rfl (linesL T U V bt bu bv k ++ pcs L1 L2 L3 2 ++ L3) rfl (by omega) hs3 ?_; intro g3 c3 w3 HR3 hgx hax HBx; have hne3 : g3 ≠ wo.heap.size + 1 := away hax.out hne HA3.out.1; have HA4 := HA3.out.grown hgx.out hne; have HB4 : Hid (Below w1.heap.size w1 w3) := HB3.out.trans HBx.out; clear hgx hax HBx HN3 HO3 hs3 HB3 HA3 hne; have HO4 := (HR3.out.below (bl_a (.cells #[.int .u8 32] 5))).own; have HN4 : Hid (∀ j u, (([32] : List Int).map (Value.int .u8))[j]? = some u → (w3.alloc (.cells #[.int .u8 32] 5)).cell? ((⟨w3.heap.size, 0, none⟩ : Addr).add j) = some u) := one_news w3 32; have HA4a : Hid (At12 (w3.alloc (.cells #[.int .u8 32] 5)) (wo.heap.size + 1) (T k) (U k) (V k)) := HA4.below (bl_a _); have HB4a : Hid (Below w1.heap.size w1 (w3.alloc (.cells #[.int .u8 32] 5))) := HB4.out.alloc HB4.out.size _; have hs4 := HB4a.out.size; have hne := own_ne (n := M + L3.length) (c := c3) hne3; clear HR3 HA4 HB4)
            | (refine app8 rfl (.tmp 34) (.tmp 35) rfl w1.heap.size (.slice (some ⟨g3, 0, none⟩) (M + L3.length) c3) (M + L3.length) (linesL T U V bt bu bv k ++ pcs L1 L2 L3 2 ++ L3) rfl HO4 ⟨w3.heap.size, 0, none⟩ 1 1 [32] rfl rfl HN4 (by omega) (M + L3.length + 1) rfl (linesL T U V bt bu bv k ++ pcs L1 L2 L3 2 ++ L3 ++ [32]) rfl (by omega) hs4 ?_; intro g5 c5 w5 HR5 hgx hax HBx; have hne5 : g5 ≠ wo.heap.size + 1 := away hax.out hne HA4a.out.1; have HA5 : Hid (At12 w5 (wo.heap.size + 1) (T k) (U k) (V k)) := HA4a.out.grown hgx.out hne; have HB5 : Hid (Below w1.heap.size w1 w5) := HB4a.out.trans HBx.out; clear hgx hax HBx HN4 HO4 hs4 HB4a HA4a hne hne3))
          go_roundw
          case rel =>
            refine ⟨3, M + L3.length + 1, _, by omega, by go_num, rfl, by omega, ?_, HB5, HA5, own_ne hne5⟩
            show Own8 _ _ _ _ _
            have h := HR5.out.own8
            simpa [pcs] using h
          case measure => simp [intOf]
        · have hsi := HBi.out.size
          clear S1 S2 S3
          go_wp2_with (refine app8s rfl (.tmp 38) (.const (.string ⟨#[46, 10]⟩)) rfl w1.heap.size v M (linesL T U V bt bu bv k ++ pcs L1 L2 L3 3) rfl HOi ⟨#[46, 10]⟩ rfl (by decide) (M + 2) rfl (linesL T U V bt bu bv k ++ pcs L1 L2 L3 3 ++ [46, 10]) rfl (by omega) hsi ?_; intro g6 c6 w6 HR6 HBx; have HB6 : Hid (Below w1.heap.size w1 w6) := HBi.out.trans HBx.out; clear HBx)
          go_roundw
          case rel =>
            refine ⟨k + 1, M + 2, _, by omega, by go_num, rfl, by omega, ?_, HB6⟩
            show Own8 _ _ _ _ _
            have h := HR6.out.own8
            rw [HL1.out]
            simpa [pcs] using h
          case measure => simp [intOf]; omega
    · obtain rfl : k = n := by omega
      have HL := HLEN.out k (Nat.le_refl _)
      obtain ⟨a', cp, rfl, hnw⟩ := HO.out.nw HBY.out (by omega)
      have hlen := HO.out.len
      have HNW : Hid (Nw wo w1.heap.size a' N (linesL T U V bt bu bv k)) := hnw
      have HLN : Hid ((linesL T U V bt bu bv k).length = N) := hlen
      clear hnw hlen
      go_wp2_with fail
      go_ret2
      refine ⟨a', cp, by rw [HLN.out]; rfl, ?_, HW.out _ HB.out⟩
      rw [HLN.out]
      exact HNW.out.mono HW1.out.size
end Go.Proofs.YtmpiadlmkeimdaaDoor
