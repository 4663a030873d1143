/- Graphs as texts: the model's l2text. -/
import Derived.Test.YtmpiadlmkeimdaaDoorGtxA
namespace Go.Proofs.YtmpiadlmkeimdaaDoor
open Go.RowKit Go.Deep
set_option maxRecDepth 100000

theorem At12.grown {w w' : World} {b : Nat} {t u v : Tm} {x : Value} (h : At12 w b t u v) (hg : w.grownBy w' x.ownBlock) (hne : x.ownBlock ≠ some b) : At12 w' b t u v := by
  obtain ⟨hl, h⟩ := h
  have e : ∀ i, w'.cell? ⟨b, i, none⟩ = w.cell? ⟨b, i, none⟩ := fun i => World.cell?_of_block (hg.block b hl (fun q => hne q.symm))
  refine ⟨Nat.lt_of_lt_of_le hl hg.size, ?_⟩
  simp only [e]
  exact h
theorem Own8.off {w : World} {B n b : Nat} {v : Value} {bs : List Int} (h : Own8 w B v n bs) (hb : w.heap.size ≤ b) : v.ownBlock ≠ some b := fun e => by
  have := (h.2 b e).2
  omega
theorem l1show_tm (t : Tm) (bs : List Int) (w : World) (hB : Bs w t.a t.len bs) (hok : termOk t.k bs t.n t.s = true) :
    Calls Tryd.prog 22 #[.agg #[.int .i64 t.k, .slice t.a t.len t.cap, .int .i64 t.n, .int .i64 t.s]] w fun e w' => DigRes w (t.show bs) e w' := l1show_any t.k t.n t.s t.a t.len t.cap bs w hB hok

set_option maxHeartbeats 4000000 in
theorem l2text_any (a : Option Addr) (n cap : Nat) (T U V : Nat → Tm) (bt bu bv : Nat → List Int) (w : World) (hn : n ≤ 60) (hR : Rows w a n T U V) (h1 : Texts w n T bt) (h2 : Texts w n U bu) (h3 : Texts w n V bv) (hok : ∀ i, i < n → stepOk T U V bt bu bv i = true) :
    Calls Tryd.prog 31 #[.agg #[.slice a n cap]] w fun e w' => TxRes w (linesL T U V bt bu bv n) e w' := by
  by_cases hn0 : n = 0
  · subst hn0
    clear hR h1 h2 h3 hok
    go_enter Tryd.func31, Tryd.ntmps31
    go_wp2
    refine wp_loop_rounds 1 ?_
    rw [rounds_succ]
    go_wp2
    go_ret
    exact ⟨none, 0, rfl, Nw.nil _ _, bl_a _⟩
  obtain ⟨b, off, rfl, hlt, hc⟩ := hR.resolve_left hn0
  have HC : Hid (∀ i, i < n → Row12 w b (off + i * 12) (T i) (U i) (V i)) := hc
  have H1 : Hid (Texts w n T bt) := h1
  have H2 : Hid (Texts w n U bu) := h2
  have H3 : Hid (Texts w n V bv) := h3
  have HOK : Hid (∀ i, i < n → stepOk T U V bt bu bv i = true) := hok
  have HX : Hid (∀ wr, Below (w.heap.size + 1) (w.alloc (.cells #[.slice (some ⟨b, off, none⟩) n cap] 42)) wr → wr.cell? ⟨w.heap.size, 0, none⟩ = some (.slice (some ⟨b, off, none⟩) n cap)) := fun wr h => (h.cell (p := ⟨w.heap.size, 0, none⟩) (Nat.lt_succ_self _)).trans (by simp [go_sem])
  have HW : Hid (∀ wr, Below (w.heap.size + 1) (w.alloc (.cells #[.slice (some ⟨b, off, none⟩) n cap] 42)) wr → Below w.heap.size w wr) := fun wr h => (bl_a (w := w) _).trans (h.mono (Nat.le_succ _))
  have HSZ : Hid (∀ wr, Below (w.heap.size + 1) (w.alloc (.cells #[.slice (some ⟨b, off, none⟩) n cap] 42)) wr → (w.heap.size + 1) ≤ wr.heap.size) := fun wr h => Nat.le_trans (by simp) h.size
  have HLEN : Hid (∀ k, k ≤ n → (linesL T U V bt bu bv k).length ≤ k * 200) := fun k hk => linesL_len k (fun j hj => hok j (by omega))
  have HBY : Hid (Byt (linesL T U V bt bu bv n)) := linesL_byt n (fun i hi => (h1 i hi).byt) (fun i hi => (h2 i hi).byt) (fun i hi => (h3 i hi).byt)
  clear hR hc h1 h2 h3 hok
  go_enter Tryd.func31, Tryd.ntmps31
  go_wp2_with fail
  go_loopw [3, 4] (fun x i wr => ∃ (k N : Nat) (v : Value), k ≤ n ∧ i = .int .i64 k ∧ v = x ∧ N ≤ 12000 ∧ Hid (Own8 wr (w.heap.size + 1) v N (linesL T U V bt bu bv k)) ∧ Hid (Below (w.heap.size + 1) (w.alloc (.cells #[.slice (some ⟨b, off, none⟩) n cap] 42)) wr))
    (fun _ i _ => n - (intOf i).toNat)
  case atStart => exact ⟨0, 0, _, Nat.zero_le _, rfl, rfl, by omega, Own8.nil _ _, Below.refl _ _⟩
  case round =>
    obtain ⟨k, N, v, hk, rfl, rfl, hN, HO, HB⟩ := hrel
    have hbox := HX.out wr HB.out
    by_cases hlk : k < n
    · have hx := (HC.out k hlk).of_block ((HW.out wr HB.out).block b hlt)
      obtain ⟨ok1, ok2, ok3⟩ := stepOk_terms (HOK.out k hlk)
      have hl1 := Tm.show_len ok1
      have hl2 := Tm.show_len ok2
      have hl3 := Tm.show_len ok3
      have S1 := fun (w' : World) (hq : Below (w.heap.size + 1) (w.alloc (.cells #[.slice (some ⟨b, off, none⟩) n cap] 42)) w') => l1show_tm (T k) (bt k) w' ((H1.out k hlk).below (HW.out w' hq)) ok1
      have S2 := fun (w' : World) (hq : Below (w.heap.size + 1) (w.alloc (.cells #[.slice (some ⟨b, off, none⟩) n cap] 42)) w') => l1show_tm (U k) (bu k) w' ((H2.out k hlk).below (HW.out w' hq)) ok2
      have S3 := fun (w' : World) (hq : Below (w.heap.size + 1) (w.alloc (.cells #[.slice (some ⟨b, off, none⟩) n cap] 42)) w') => l1show_tm (V k) (bv k) w' ((H3.out k hlk).below (HW.out w' hq)) ok3
      have HL1 : Hid (linesL T U V bt bu bv (k + 1) = linesL T U V bt bu bv k ++ lineL (T k) (U k) (V k) (bt k) (bu k) (bv k)) := rfl
      have hNk : N + 200 ≤ 12000 := by
        have e1 := HO.out.len
        have e2 := HLEN.out k hk
        omega
      unfold lineL at HL1
      generalize (T k).show (bt k) = L1 at *
      generalize (U k).show (bu k) = L2 at *
      generalize (V k).show (bv k) = L3 at *
      clear ok1 ok2 ok3
      have hne : v.ownBlock ≠ some wr.heap.size := HO.out.off (Nat.le_refl _)
      have hB1 : Below (w.heap.size + 1) (w.alloc (.cells #[.slice (some ⟨b, off, none⟩) n cap] 42)) (wr.alloc (.cells (cells12 (T k) (U k) (V k)) 59)) := HB.out.alloc (HSZ.out _ HB.out) _
      have HA1 : Hid (At12 (wr.alloc (.cells (cells12 (T k) (U k) (V k)) 59)) wr.heap.size (T k) (U k) (V k)) := (Own12.at wr _ _ _ _ _ rfl).1
      have HO1 : Hid (Own8 (wr.alloc (.cells (cells12 (T k) (U k) (V k)) 59)) (w.heap.size + 1) v N (linesL T U V bt bu bv k)) := HO.out.below (bl_a _)
      obtain ⟨⟨x0, x1, x2, x3⟩, ⟨x4, x5, x6, x7⟩, ⟨x8, x9, xa, xb⟩⟩ := hx
      go_wp2_with fail
      refine (S1 _ hB1).mono ?_
      rintro e w2 ⟨g2, c2, rfl, hr2, hb2⟩
      clear x0 x1 x2 x3 x4 x5 x6 x7 x8 x9 xa xb S1
      have HB2 : Hid (Below (w.heap.size + 1) (w.alloc (.cells #[.slice (some ⟨b, off, none⟩) n cap] 42)) w2) := hB1.trans (hb2.mono (HSZ.out _ hB1))
      have HA2 : Hid (At12 w2 wr.heap.size (T k) (U k) (V k)) := HA1.out.below hb2
      have HO2 : Hid (w2.ownsRow (w.heap.size + 1) 5 1 v N ((linesL T U V bt bu bv k).map (Value.int .u8))) := (HO1.out.below hb2).1
      have HN2 : Hid (∀ j u, (L1.map (Value.int .u8))[j]? = some u → w2.cell? ((⟨g2, 0, none⟩ : Addr).add j) = some u) := hr2.news
      have hs2 := HSZ.out _ HB2.out
      clear hB1 HA1 HO1 hr2 hb2 HO
      go_wp2_with (first
        | (refine app8 rfl (.tmp 18) (.tmp 21) rfl (w.heap.size + 1) v N (linesL T U V bt bu bv k) rfl HO2 ⟨g2, 0, none⟩ L1.length _ L1 rfl rfl HN2 (by omega) (N + L1.length) rfl (linesL T U V bt bu bv k ++ L1) rfl (by omega) hs2 ?_; intro g3 c3 w3 HR3 hgx hax HBx; have hne3 : g3 ≠ wr.heap.size := away hax.out hne HA2.out.1; have HA3 := HA2.out.grown hgx.out hne; have HB3 : Hid (Below (w.heap.size + 1) (w.alloc (.cells #[.slice (some ⟨b, off, none⟩) n cap] 42)) w3) := HB2.out.trans HBx.out; clear hgx hax HBx HN2 HO2 hs2 HB2 HA2 hne; have HO3 := (HR3.out.below (bl_a (.cells #[.int .u8 32] 5))).own; have HN3 : Hid (∀ j u, (([32] : List Int).map (Value.int .u8))[j]? = some u → (w3.alloc (.cells #[.int .u8 32] 5)).cell? ((⟨w3.heap.size, 0, none⟩ : Addr).add j) = some u) := one_news w3 32; have HA3a : Hid (At12 (w3.alloc (.cells #[.int .u8 32] 5)) wr.heap.size (T k) (U k) (V k)) := HA3.below (bl_a _); have HB3a : Hid (Below (w.heap.size + 1) (w.alloc (.cells #[.slice (some ⟨b, off, none⟩) n cap] 42)) (w3.alloc (.cells #[.int .u8 32] 5))) := HB3.out.alloc (HSZ.out _ HB3.out) _; have hs3 := HSZ.out _ HB3a.out; have hne := own_ne (n := N + L1.length) (c := c3) hne3; clear HR3 HA3 HB3)
        | (refine app8 rfl (.tmp 22) (.tmp 23) rfl (w.heap.size + 1) (.slice (some ⟨g3, 0, none⟩) (N + L1.length) c3) (N + L1.length) (linesL T U V bt bu bv k ++ L1) rfl HO3 ⟨w3.heap.size, 0, none⟩ 1 1 [32] rfl rfl HN3 (by omega) (N + L1.length + 1) rfl (linesL T U V bt bu bv k ++ L1 ++ [32]) rfl (by omega) hs3 ?_; intro g4 c4 w4 HR4 hgx hax HBx; have hne4 : g4 ≠ wr.heap.size := away hax.out hne HA3a.out.1; have HA4 := HA3a.out.grown hgx.out hne; have HB4 : Hid (Below (w.heap.size + 1) (w.alloc (.cells #[.slice (some ⟨b, off, none⟩) n cap] 42)) w4) := HB3a.out.trans HBx.out; clear hgx hax HBx HN3 HO3 hs3 HB3a HA3a hne hne3; obtain ⟨y0, ⟨x0, x1, x2, x3⟩, ⟨x4, x5, x6, x7⟩, ⟨x8, x9, xa, xb⟩⟩ := id HA4))
      refine (S2 _ HB4.out).mono ?_
      rintro e w5 ⟨g5, c5, rfl, hr5, hb5⟩
      clear x0 x1 x2 x3 x4 x5 x6 x7 x8 x9 xa xb S2 y0
      have HB5 : Hid (Below (w.heap.size + 1) (w.alloc (.cells #[.slice (some ⟨b, off, none⟩) n cap] 42)) w5) := HB4.out.trans (hb5.mono (HSZ.out _ HB4.out))
      have HA5 : Hid (At12 w5 wr.heap.size (T k) (U k) (V k)) := HA4.below hb5
      have HO5 := (HR4.out.below hb5).own
      have HN5 : Hid (∀ j u, (L2.map (Value.int .u8))[j]? = some u → w5.cell? ((⟨g5, 0, none⟩ : Addr).add j) = some u) := hr5.news
      have hs5 := HSZ.out _ HB5.out
      have hne := own_ne (n := N + L1.length + 1) (c := c4) hne4
      clear hr5 hb5 HR4 HB4 HA4
      go_wp2_with (first
        | (refine app8 rfl (.tmp 25) (.tmp 28) rfl (w.heap.size + 1) (.slice (some ⟨g4, 0, none⟩) (N + L1.length + 1) c4) (N + L1.length + 1) (linesL T U V bt bu bv k ++ L1 ++ [32]) rfl HO5 ⟨g5, 0, none⟩ L2.length _ L2 rfl rfl HN5 (by omega) (N + L1.length + 1 + L2.length) rfl (linesL T U V bt bu bv k ++ L1 ++ [32] ++ L2) rfl (by omega) hs5 ?_; intro g6 c6 w6 HR6 hgx hax HBx; have hne6 : g6 ≠ wr.heap.size := away hax.out hne HA5.out.1; have HA6 := HA5.out.grown hgx.out hne; have HB6 : Hid (Below (w.heap.size + 1) (w.alloc (.cells #[.slice (some ⟨b, off, none⟩) n cap] 42)) w6) := HB5.out.trans HBx.out; clear hgx hax HBx HN5 HO5 hs5 HB5 HA5 hne hne4; have HO6 := (HR6.out.below (bl_a (.cells #[.int .u8 32] 5))).own; have HN6 : Hid (∀ j u, (([32] : List Int).map (Value.int .u8))[j]? = some u → (w6.alloc (.cells #[.int .u8 32] 5)).cell? ((⟨w6.heap.size, 0, none⟩ : Addr).add j) = some u) := one_news w6 32; have HA6a : Hid (At12 (w6.alloc (.cells #[.int .u8 32] 5)) wr.heap.size (T k) (U k) (V k)) := HA6.below (bl_a _); have HB6a : Hid (Below (w.heap.size + 1) (w.alloc (.cells #[.slice (some ⟨b, off, none⟩) n cap] 42)) (w6.alloc (.cells #[.int .u8 32] 5))) := HB6.out.alloc (HSZ.out _ HB6.out) _; have hs6 := HSZ.out _ HB6a.out; have hne := own_ne (n := N + L1.length + 1 + L2.length) (c := c6) hne6; clear HR6 HA6 HB6)
        | (refine app8 rfl (.tmp 29) (.tmp 30) rfl (w.heap.size + 1) (.slice (some ⟨g6, 0, none⟩) (N + L1.length + 1 + L2.length) c6) (N + L1.length + 1 + L2.length) (linesL T U V bt bu bv k ++ L1 ++ [32] ++ L2) rfl HO6 ⟨w6.heap.size, 0, none⟩ 1 1 [32] rfl rfl HN6 (by omega) (N + L1.length + 1 + L2.length + 1) rfl (linesL T U V bt bu bv k ++ L1 ++ [32] ++ L2 ++ [32]) rfl (by omega) hs6 ?_; intro g7 c7 w7 HR7 hgx hax HBx; have hne7 : g7 ≠ wr.heap.size := away hax.out hne HA6a.out.1; have HA7 := HA6a.out.grown hgx.out hne; have HB7 : Hid (Below (w.heap.size + 1) (w.alloc (.cells #[.slice (some ⟨b, off, none⟩) n cap] 42)) w7) := HB6a.out.trans HBx.out; clear hgx hax HBx HN6 HO6 hs6 HB6a HA6a hne hne6; obtain ⟨y0, ⟨x0, x1, x2, x3⟩, ⟨x4, x5, x6, x7⟩, ⟨x8, x9, xa, xb⟩⟩ := id HA7))
      refine (S3 _ HB7.out).mono ?_
      rintro e w8 ⟨g8, c8, rfl, hr8, hb8⟩
      clear x0 x1 x2 x3 x4 x5 x6 x7 x8 x9 xa xb S3 y0 hne7
      have HB8 : Hid (Below (w.heap.size + 1) (w.alloc (.cells #[.slice (some ⟨b, off, none⟩) n cap] 42)) w8) := HB7.out.trans (hb8.mono (HSZ.out _ HB7.out))
      have HO8 := (HR7.out.below hb8).own
      have HN8 : Hid (∀ j u, (L3.map (Value.int .u8))[j]? = some u → w8.cell? ((⟨g8, 0, none⟩ : Addr).add j) = some u) := hr8.news
      have hs8 := HSZ.out _ HB8.out
      clear hr8 hb8 HR7 HB7 HA7
      go_wp2_with (first
        | (refine app8 rfl (.tmp 32) (.tmp 35) rfl (w.heap.size + 1) (.slice (some ⟨g7, 0, none⟩) (N + L1.length + 1 + L2.length + 1) c7) (N + L1.length + 1 + L2.length + 1) (linesL T U V bt bu bv k ++ L1 ++ [32] ++ L2 ++ [32]) rfl HO8 ⟨g8, 0, none⟩ L3.length _ L3 rfl rfl HN8 (by omega) (N + L1.length + 1 + L2.length + 1 + L3.length) rfl (linesL T U V bt bu bv k ++ L1 ++ [32] ++ L2 ++ [32] ++ L3) rfl (by omega) hs8 ?_; intro g9 c9 w9 HR9 _ _ HBx; have HB9 : Hid (Below (w.heap.size + 1) (w.alloc (.cells #[.slice (some ⟨b, off, none⟩) n cap] 42)) w9) := HB8.out.trans HBx.out; clear HBx HN8 HO8 hs8 HB8; have HO9 : Hid (Own8 w9 (w.heap.size + 1) (.slice (some ⟨g9, 0, none⟩) (N + L1.length + 1 + L2.length + 1 + L3.length) c9) (N + L1.length + 1 + L2.length + 1 + L3.length) (linesL T U V bt bu bv k ++ L1 ++ [32] ++ L2 ++ [32] ++ L3)) := HR9.out.own8; have hs9 := HSZ.out _ HB9.out)
        | (refine app8s rfl (.tmp 36) (.const (.string ⟨#[32, 46, 10]⟩)) rfl (w.heap.size + 1) (.slice (some ⟨g9, 0, none⟩) (N + L1.length + 1 + L2.length + 1 + L3.length) c9) (N + L1.length + 1 + L2.length + 1 + L3.length) (linesL T U V bt bu bv k ++ L1 ++ [32] ++ L2 ++ [32] ++ L3) rfl HO9 ⟨#[32, 46, 10]⟩ rfl (by decide) (N + L1.length + 1 + L2.length + 1 + L3.length + 3) rfl (linesL T U V bt bu bv k ++ L1 ++ [32] ++ L2 ++ [32] ++ L3 ++ [32, 46, 10]) rfl (by omega) hs9 ?_; intro g10 c10 w10 HR10 HBx; have HB10 : Hid (Below (w.heap.size + 1) (w.alloc (.cells #[.slice (some ⟨b, off, none⟩) n cap] 42)) w10) := HB9.out.trans HBx.out; clear HBx HO9 hs9 HB9))
      go_roundw
      case rel =>
        refine ⟨k + 1, N + L1.length + 1 + L2.length + 1 + L3.length + 3, _, by omega, by go_num, rfl, by omega, ?_, HB10⟩
        show Own8 _ _ _ _ _
        have h := HR10.out.own8
        rw [HL1.out]
        simpa using h
      case measure => simp [intOf]; omega
    · obtain rfl : k = n := by omega
      have HL := HLEN.out k (Nat.le_refl _)
      obtain ⟨a', cp, rfl, hnw⟩ := HO.out.nw HBY.out (by omega)
      have hlen := HO.out.len
      have HNW : Hid (Nw wr (w.heap.size + 1) a' N (linesL T U V bt bu bv k)) := hnw
      have HLN : Hid ((linesL T U V bt bu bv k).length = N) := hlen
      clear hnw hlen
      go_wp2_with fail
      go_ret
      refine ⟨a', cp, by rw [HLN.out]; rfl, ?_, HW.out _ HB.out⟩
      rw [HLN.out]
      exact HNW.out.mono (Nat.le_succ _)
end Go.Proofs.YtmpiadlmkeimdaaDoor
