/- Texts put together: ReT RdC RdD -/
import Derived.Test.YtiodiooaaojbhaaGreatDoorNk05
import Derived.Test.YtiodiooaaojbhaaGreatDoorNk16
import Derived.Test.YtiodiooaaojbhaaGreatDoorNk14
import Derived.Test.YtiodiooaaojbhaaGreatDoorNk15
import Derived.Test.YtiodiooaaojbhaaGreatDoorShf
import Derived.BigQuiet
/- ReT -/
namespace Go.Proofs.YtiodiooaaojbhaaGreatDoor
open Go.RowKit Go.Deep
set_option maxRecDepth 100000

/-- A row of the call's own is such a text. -/
theorem Own8.tz {w : World} {B n : Nat} {v : Value} {bs : List Int} (h : Own8 w B v n bs) (hb : Byt bs) (hl : n ≤ 1048576) : ∃ a cap, v = .slice a n cap ∧ Tz w B a n cap bs := by
  obtain ⟨a, cap, rfl, hN⟩ := h.nw hb hl
  refine ⟨a, cap, rfl, hN.bs, ?_⟩
  rcases h.1.2 with ⟨hv, h0⟩ | ⟨g, cap', cur, hv, hB, hh, hle, _, hsz, _⟩
  · cases hv
    exact .inl ⟨rfl, rfl, rfl⟩
  · cases hv
    refine .inr ⟨g, rfl, hB, (h.2 g rfl).2, hle, fun j hj => ?_⟩
    simp only [World.cell?, World.frozen?, hh]
    refine ⟨?_, by simp⟩
    have : j < cur.size := by omega
    simp [this]
/-- What l2text answers. -/
def TzRes (w : World) (bs : List Int) (e : Ending) (w' : World) : Prop := ∃ a cap, e = .returned (.slice a bs.length cap) ∧ Tz w' w.heap.size a bs.length cap bs ∧ Below w.heap.size w w'
set_option maxHeartbeats 4000000 in
theorem l2text_tz (a : Option Addr) (n cap : Nat) (T U V : Nat → Tm) (bt bu bv : Nat → List Int) (w : World) (hn : n ≤ 60) (hR : Rows w a n T U V) (h1 : Texts w n T bt) (h2 : Texts w n U bu) (h3 : Texts w n V bv) (hok : ∀ i, i < n → TOk T U V bt bu bv i) :
    Calls Tryz.prog 21 #[.agg #[.slice a n cap]] w fun e w' => TzRes w (linesL T U V bt bu bv n) e w' := by
  by_cases hn0 : n = 0
  · subst hn0
    clear hR h1 h2 h3 hok
    go_enter Tryz.func21, Tryz.ntmps21
    go_wp2
    refine wp_loop_rounds 1 ?_
    rw [rounds_succ]
    go_wp2
    go_ret
    exact ⟨none, 0, rfl, ⟨⟨rfl, by show 0 ≤ _; omega, by simp [linesL], .inl rfl⟩, .inl ⟨rfl, rfl, rfl⟩⟩, bl_a _⟩
  obtain ⟨b, off, rfl, hlt, hc⟩ := hR.resolve_left hn0
  have HC : Hid (∀ i, i < n → Row12 w b (off + i * 12) (T i) (U i) (V i)) := hc
  have H1 : Hid (Texts w n T bt) := h1
  have H2 : Hid (Texts w n U bu) := h2
  have H3 : Hid (Texts w n V bv) := h3
  have HOK : Hid (∀ i, i < n → TOk T U V bt bu bv i) := hok
  have HX : Hid (∀ wr, Below (w.heap.size + 1) (w.alloc (.cells #[.slice (some ⟨b, off, none⟩) n cap] 25)) wr → wr.cell? ⟨w.heap.size, 0, none⟩ = some (.slice (some ⟨b, off, none⟩) n cap)) := fun wr h => (h.cell (p := ⟨w.heap.size, 0, none⟩) (Nat.lt_succ_self _)).trans (by simp [go_sem])
  have HW : Hid (∀ wr, Below (w.heap.size + 1) (w.alloc (.cells #[.slice (some ⟨b, off, none⟩) n cap] 25)) wr → Below w.heap.size w wr) := fun wr h => (bl_a (w := w) _).trans (h.mono (Nat.le_succ _))
  have HSZ : Hid (∀ wr, Below (w.heap.size + 1) (w.alloc (.cells #[.slice (some ⟨b, off, none⟩) n cap] 25)) wr → (w.heap.size + 1) ≤ wr.heap.size) := fun wr h => Nat.le_trans (by simp) h.size
  have HLEN : Hid (∀ k, k ≤ n → (linesL T U V bt bu bv k).length ≤ k * 200) := fun k hk => linesL_len k (fun j hj => hok j (by omega))
  have HBY : Hid (Byt (linesL T U V bt bu bv n)) := linesL_byt n (fun i hi => (h1 i hi).byt) (fun i hi => (h2 i hi).byt) (fun i hi => (h3 i hi).byt)
  clear hR hc h1 h2 h3 hok
  go_enter Tryz.func21, Tryz.ntmps21
  go_wp2_with fail
  go_loopw [3, 4] (fun x i wr => ∃ (k N : Nat) (v : Value), k ≤ n ∧ i = .int .i64 k ∧ v = x ∧ N ≤ 12000 ∧ Hid (Own8 wr (w.heap.size + 1) v N (linesL T U V bt bu bv k)) ∧ Hid (Below (w.heap.size + 1) (w.alloc (.cells #[.slice (some ⟨b, off, none⟩) n cap] 25)) wr))
    (fun _ i _ => n - (intOf i).toNat)
  case atStart => exact ⟨0, 0, _, Nat.zero_le _, rfl, rfl, by omega, Own8.nil _ _, Below.refl _ _⟩
  case round =>
    obtain ⟨k, N, v, hk, rfl, rfl, hN, HO, HB⟩ := hrel
    have hbox := HX.out wr HB.out
    by_cases hlk : k < n
    · have hx := (HC.out k hlk).of_block ((HW.out wr HB.out).block b hlt)
      obtain ⟨ok1, ok2, ok3⟩ := HOK.out k hlk
      have hl1 := Tm.show_len ok1
      have hl2 := Tm.show_len ok2
      have hl3 := Tm.show_len ok3
      have S1 := fun (w' : World) (hq : Below (w.heap.size + 1) (w.alloc (.cells #[.slice (some ⟨b, off, none⟩) n cap] 25)) w') => l1show_tm (T k) (bt k) w' ((H1.out k hlk).below (HW.out w' hq)) ok1
      have S2 := fun (w' : World) (hq : Below (w.heap.size + 1) (w.alloc (.cells #[.slice (some ⟨b, off, none⟩) n cap] 25)) w') => l1show_tm (U k) (bu k) w' ((H2.out k hlk).below (HW.out w' hq)) ok2
      have S3 := fun (w' : World) (hq : Below (w.heap.size + 1) (w.alloc (.cells #[.slice (some ⟨b, off, none⟩) n cap] 25)) w') => l1show_tm (V k) (bv k) w' ((H3.out k hlk).below (HW.out w' hq)) ok3
      have HL1 : Hid (linesL T U V bt bu bv (k + 1) = linesL T U V bt bu bv k ++ lineL (T k) (U k) (V k) (bt k) (bu k) (bv k)) := rfl
      have hNk : N + 200 ≤ 12000 := by
        have e1 := HO.out.len
        have e2 := HLEN.out k hk
        omega
      unfold lineL at HL1
      generalize (T k).show (bt k) = L1 at *
      generalize (U k).show (bu k) = L2 at *
      generalize (V k).show (bv k) = L3 at *
      clear ok1 ok2 ok3
      have hne : v.ownBlock ≠ some wr.heap.size := HO.out.off (Nat.le_refl _)
      have hB1 : Below (w.heap.size + 1) (w.alloc (.cells #[.slice (some ⟨b, off, none⟩) n cap] 25)) (wr.alloc (.cells (cells12 (T k) (U k) (V k)) 45)) := HB.out.alloc (HSZ.out _ HB.out) _
      have HA1 : Hid (At12 (wr.alloc (.cells (cells12 (T k) (U k) (V k)) 45)) wr.heap.size (T k) (U k) (V k)) := (Own12.at wr _ _ _ _ _ rfl).1
      have HO1 : Hid (Own8 (wr.alloc (.cells (cells12 (T k) (U k) (V k)) 45)) (w.heap.size + 1) v N (linesL T U V bt bu bv k)) := HO.out.below (bl_a _)
      obtain ⟨⟨x0, x1, x2, x3⟩, ⟨x4, x5, x6, x7⟩, ⟨x8, x9, xa, xb⟩⟩ := hx
      go_wp2_with fail
      refine (S1 _ hB1).mono ?_
      rintro e w2 ⟨g2, c2, rfl, hr2, hb2⟩
      clear x0 x1 x2 x3 x4 x5 x6 x7 x8 x9 xa xb S1
      have HB2 : Hid (Below (w.heap.size + 1) (w.alloc (.cells #[.slice (some ⟨b, off, none⟩) n cap] 25)) w2) := hB1.trans (hb2.mono (HSZ.out _ hB1))
      have HA2 : Hid (At12 w2 wr.heap.size (T k) (U k) (V k)) := HA1.out.below hb2
      have HO2 : Hid (w2.ownsRow (w.heap.size + 1) 5 1 v N ((linesL T U V bt bu bv k).map (Value.int .u8))) := (HO1.out.below hb2).1
      have HN2 : Hid (∀ j u, (L1.map (Value.int .u8))[j]? = some u → w2.cell? ((⟨g2, 0, none⟩ : Addr).add j) = some u) := hr2.news
      have hs2 := HSZ.out _ HB2.out
      clear hB1 HA1 HO1 hr2 hb2 HO
      go_wp2_with (first
        | (refine app8 rfl (.tmp 18) (.tmp 21) rfl (w.heap.size + 1) v N (linesL T U V bt bu bv k) rfl HO2 ⟨g2, 0, none⟩ L1.length _ L1 rfl rfl HN2 (by omega) (N + L1.length) rfl (linesL T U V bt bu bv k ++ L1) rfl (by omega) hs2 ?_; intro g3 c3 w3 HR3 hgx hax HBx; have hne3 : g3 ≠ wr.heap.size := away hax.out hne HA2.out.1; have HA3 := HA2.out.grown hgx.out hne; have HB3 : Hid (Below (w.heap.size + 1) (w.alloc (.cells #[.slice (some ⟨b, off, none⟩) n cap] 25)) w3) := HB2.out.trans HBx.out; clear hgx hax HBx HN2 HO2 hs2 HB2 HA2 hne; have HO3 := (HR3.out.below (bl_a (.cells #[.int .u8 32] 5))).own; have HN3 : Hid (∀ j u, (([32] : List Int).map (Value.int .u8))[j]? = some u → (w3.alloc (.cells #[.int .u8 32] 5)).cell? ((⟨w3.heap.size, 0, none⟩ : Addr).add j) = some u) := one_news w3 32; have HA3a : Hid (At12 (w3.alloc (.cells #[.int .u8 32] 5)) wr.heap.size (T k) (U k) (V k)) := HA3.below (bl_a _); have HB3a : Hid (Below (w.heap.size + 1) (w.alloc (.cells #[.slice (some ⟨b, off, none⟩) n cap] 25)) (w3.alloc (.cells #[.int .u8 32] 5))) := HB3.out.alloc (HSZ.out _ HB3.out) _; have hs3 := HSZ.out _ HB3a.out; have hne := own_ne (n := N + L1.length) (c := c3) hne3; clear HR3 HA3 HB3)
        | (refine app8 rfl (.tmp 22) (.tmp 23) rfl (w.heap.size + 1) (.slice (some ⟨g3, 0, none⟩) (N + L1.length) c3) (N + L1.length) (linesL T U V bt bu bv k ++ L1) rfl HO3 ⟨w3.heap.size, 0, none⟩ 1 1 [32] rfl rfl HN3 (by omega) (N + L1.length + 1) rfl (linesL T U V bt bu bv k ++ L1 ++ [32]) rfl (by omega) hs3 ?_; intro g4 c4 w4 HR4 hgx hax HBx; have hne4 : g4 ≠ wr.heap.size := away hax.out hne HA3a.out.1; have HA4 := HA3a.out.grown hgx.out hne; have HB4 : Hid (Below (w.heap.size + 1) (w.alloc (.cells #[.slice (some ⟨b, off, none⟩) n cap] 25)) w4) := HB3a.out.trans HBx.out; clear hgx hax HBx HN3 HO3 hs3 HB3a HA3a hne hne3; obtain ⟨y0, ⟨x0, x1, x2, x3⟩, ⟨x4, x5, x6, x7⟩, ⟨x8, x9, xa, xb⟩⟩ := id HA4))
      refine (S2 _ HB4.out).mono ?_
      rintro e w5 ⟨g5, c5, rfl, hr5, hb5⟩
      clear x0 x1 x2 x3 x4 x5 x6 x7 x8 x9 xa xb S2 y0
      have HB5 : Hid (Below (w.heap.size + 1) (w.alloc (.cells #[.slice (some ⟨b, off, none⟩) n cap] 25)) w5) := HB4.out.trans (hb5.mono (HSZ.out _ HB4.out))
      have HA5 : Hid (At12 w5 wr.heap.size (T k) (U k) (V k)) := HA4.below hb5
      have HO5 := (HR4.out.below hb5).own
      have HN5 : Hid (∀ j u, (L2.map (Value.int .u8))[j]? = some u → w5.cell? ((⟨g5, 0, none⟩ : Addr).add j) = some u) := hr5.news
      have hs5 := HSZ.out _ HB5.out
      have hne := own_ne (n := N + L1.length + 1) (c := c4) hne4
      clear hr5 hb5 HR4 HB4 HA4
      go_wp2_with (first
        | (refine app8 rfl (.tmp 25) (.tmp 28) rfl (w.heap.size + 1) (.slice (some ⟨g4, 0, none⟩) (N + L1.length + 1) c4) (N + L1.length + 1) (linesL T U V bt bu bv k ++ L1 ++ [32]) rfl HO5 ⟨g5, 0, none⟩ L2.length _ L2 rfl rfl HN5 (by omega) (N + L1.length + 1 + L2.length) rfl (linesL T U V bt bu bv k ++ L1 ++ [32] ++ L2) rfl (by omega) hs5 ?_; intro g6 c6 w6 HR6 hgx hax HBx; have hne6 : g6 ≠ wr.heap.size := away hax.out hne HA5.out.1; have HA6 := HA5.out.grown hgx.out hne; have HB6 : Hid (Below (w.heap.size + 1) (w.alloc (.cells #[.slice (some ⟨b, off, none⟩) n cap] 25)) w6) := HB5.out.trans HBx.out; clear hgx hax HBx HN5 HO5 hs5 HB5 HA5 hne hne4; have HO6 := (HR6.out.below (bl_a (.cells #[.int .u8 32] 5))).own; have HN6 : Hid (∀ j u, (([32] : List Int).map (Value.int .u8))[j]? = some u → (w6.alloc (.cells #[.int .u8 32] 5)).cell? ((⟨w6.heap.size, 0, none⟩ : Addr).add j) = some u) := one_news w6 32; have HA6a : Hid (At12 (w6.alloc (.cells #[.int .u8 32] 5)) wr.heap.size (T k) (U k) (V k)) := HA6.below (bl_a _); have HB6a : Hid (Below (w.heap.size + 1) (w.alloc (.cells #[.slice (some ⟨b, off, none⟩) n cap] 25)) (w6.alloc (.cells #[.int .u8 32] 5))) := HB6.out.alloc (HSZ.out _ HB6.out) _; have hs6 := HSZ.out _ HB6a.out; have hne := own_ne (n := N + L1.length + 1 + L2.length) (c := c6) hne6; clear HR6 HA6 HB6)
        | (refine app8 rfl (.tmp 29) (.tmp 30) rfl (w.heap.size + 1) (.slice (some ⟨g6, 0, none⟩) (N + L1.length + 1 + L2.length) c6) (N + L1.length + 1 + L2.length) (linesL T U V bt bu bv k ++ L1 ++ [32] ++ L2) rfl HO6 ⟨w6.heap.size, 0, none⟩ 1 1 [32] rfl rfl HN6 (by omega) (N + L1.length + 1 + L2.length + 1) rfl (linesL T U V bt bu bv k ++ L1 ++ [32] ++ L2 ++ [32]) rfl (by omega) hs6 ?_; intro g7 c7 w7 HR7 hgx hax HBx; have hne7 : g7 ≠ wr.heap.size := away hax.out hne HA6a.out.1; have HA7 := HA6a.out.grown hgx.out hne; have HB7 : Hid (Below (w.heap.size + 1) (w.alloc (.cells #[.slice (some ⟨b, off, none⟩) n cap] 25)) w7) := HB6a.out.trans HBx.out; clear hgx hax HBx HN6 HO6 hs6 HB6a HA6a hne hne6; obtain ⟨y0, ⟨x0, x1, x2, x3⟩, ⟨x4, x5, x6, x7⟩, ⟨x8, x9, xa, xb⟩⟩ := id HA7))
      refine (S3 _ HB7.out).mono ?_
      rintro e w8 ⟨g8, c8, rfl, hr8, hb8⟩
      clear x0 x1 x2 x3 x4 x5 x6 x7 x8 x9 xa xb S3 y0 hne7
      have HB8 : Hid (Below (w.heap.size + 1) (w.alloc (.cells #[.slice (some ⟨b, off, none⟩) n cap] 25)) w8) := HB7.out.trans (hb8.mono (HSZ.out _ HB7.out))
      have HO8 := (HR7.out.below hb8).own
      have HN8 : Hid (∀ j u, (L3.map (Value.int .u8))[j]? = some u → w8.cell? ((⟨g8, 0, none⟩ : Addr).add j) = some u) := hr8.news
      have hs8 := HSZ.out _ HB8.out
      clear hr8 hb8 HR7 HB7 HA7
      go_wp2_with (first
        | (refine app8 rfl (.tmp 32) (.tmp 35) rfl (w.heap.size + 1) (.slice (some ⟨g7, 0, none⟩) (N + L1.length + 1 + L2.length + 1) c7) (N + L1.length + 1 + L2.length + 1) (linesL T U V bt bu bv k ++ L1 ++ [32] ++ L2 ++ [32]) rfl HO8 ⟨g8, 0, none⟩ L3.length _ L3 rfl rfl HN8 (by omega) (N + L1.length + 1 + L2.length + 1 + L3.length) rfl (linesL T U V bt bu bv k ++ L1 ++ [32] ++ L2 ++ [32] ++ L3) rfl (by omega) hs8 ?_; intro g9 c9 w9 HR9 _ _ HBx; have HB9 : Hid (Below (w.heap.size + 1) (w.alloc (.cells #[.slice (some ⟨b, off, none⟩) n cap] 25)) w9) := HB8.out.trans HBx.out; clear HBx HN8 HO8 hs8 HB8; have HO9 : Hid (Own8 w9 (w.heap.size + 1) (.slice (some ⟨g9, 0, none⟩) (N + L1.length + 1 + L2.length + 1 + L3.length) c9) (N + L1.length + 1 + L2.length + 1 + L3.length) (linesL T U V bt bu bv k ++ L1 ++ [32] ++ L2 ++ [32] ++ L3)) := HR9.out.own8; have hs9 := HSZ.out _ HB9.out)
        | (refine app8s rfl (.tmp 36) (.const (.string ⟨#[32, 46, 10]⟩)) rfl (w.heap.size + 1) (.slice (some ⟨g9, 0, none⟩) (N + L1.length + 1 + L2.length + 1 + L3.length) c9) (N + L1.length + 1 + L2.length + 1 + L3.length) (linesL T U V bt bu bv k ++ L1 ++ [32] ++ L2 ++ [32] ++ L3) rfl HO9 ⟨#[32, 46, 10]⟩ rfl (by decide) (N + L1.length + 1 + L2.length + 1 + L3.length + 3) rfl (linesL T U V bt bu bv k ++ L1 ++ [32] ++ L2 ++ [32] ++ L3 ++ [32, 46, 10]) rfl (by omega) hs9 ?_; intro g10 c10 w10 HR10 HBx; have HB10 : Hid (Below (w.heap.size + 1) (w.alloc (.cells #[.slice (some ⟨b, off, none⟩) n cap] 25)) w10) := HB9.out.trans HBx.out; clear HBx HO9 hs9 HB9))
      go_roundw
      case rel =>
        refine ⟨k + 1, N + L1.length + 1 + L2.length + 1 + L3.length + 3, _, by omega, by go_num, rfl, by omega, ?_, HB10⟩
        show Own8 _ _ _ _ _
        have h := HR10.out.own8
        rw [HL1.out]
        simpa using h
      case measure => simp [intOf]; omega
    · obtain rfl : k = n := by omega
      have HL := HLEN.out k (Nat.le_refl _)
      obtain ⟨a', cp, rfl, hnw⟩ := HO.out.tz HBY.out (by omega)
      have hlen := HO.out.len
      have HNW : Hid (Tz wr (w.heap.size + 1) a' N cp (linesL T U V bt bu bv k)) := hnw
      have HLN : Hid ((linesL T U V bt bu bv k).length = N) := hlen
      clear hnw hlen
      go_wp2_with fail
      go_ret
      refine ⟨a', cp, by rw [HLN.out]; rfl, ?_, HW.out _ HB.out⟩
      rw [HLN.out]
      exact HNW.out.mono (Nat.le_succ _)
/-- The text of a row of triples. -/
def rowTx (l : List G1) : List Int := linesL (fun i => (gA l i).t) (fun i => (gA l i).u) (fun i => (gA l i).v) (fun i => (gA l i).bt) (fun i => (gA l i).bu) (fun i => (gA l i).bv) l.length
theorem l2text_row {w : World} {B : Nat} {a : Option Addr} {cap : Nat} {l : List G1} (h : OwnG w B (.slice a l.length cap) l) (hn : l.length ≤ 60) (hl : ∀ y ∈ l, Bs w y.t.a y.t.len y.bt ∧ Bs w y.u.a y.u.len y.bu ∧ Bs w y.v.a y.v.len y.bv) (hok : ∀ y ∈ l, S3K y.t y.u y.v y.bt y.bu y.bv) :
    Calls Tryz.prog 21 #[.agg #[.slice a l.length cap]] w fun e w' => TzRes w (rowTx l) e w' := by
  refine l2text_tz a l.length cap _ _ _ _ _ _ w hn (rows_gA h) (fun i hi => ?_) (fun i hi => ?_) (fun i hi => ?_) (fun i hi => ?_)
  · simp only [gA_at hi]
    exact (hl _ (List.getElem_mem hi)).1
  · simp only [gA_at hi]
    exact (hl _ (List.getElem_mem hi)).2.1
  · simp only [gA_at hi]
    exact (hl _ (List.getElem_mem hi)).2.2
  · unfold TOk
    simp only [gA_at hi]
    have := hok _ (List.getElem_mem hi)
    exact ⟨this.1.2.1, this.2.1.2.1, this.2.2.2.1⟩
theorem rowTx_len {l : List G1} (hok : ∀ y ∈ l, S3K y.t y.u y.v y.bt y.bu y.bv) : (rowTx l).length ≤ l.length * 200 := by
  refine linesL_len l.length fun i hi => ?_
  unfold TOk
  simp only [gA_at hi]
  have := hok _ (List.getElem_mem hi)
  exact ⟨this.1.2.1, this.2.1.2.1, this.2.2.2.1⟩
/-- What l2texts draws. -/
def TextsRes (g : Nat) (a : Option Addr) (len cap : Nat) (w : World) (e : Ending) (w' : World) : Prop :=
  ∃ ar cr bs, e = .returned (.slice ar bs.length cr) ∧ ((∃ l : List G1, l.length ≤ 20 ∧ (∀ y ∈ l, S3K y.t y.u y.v y.bt y.bu y.bv) ∧ bs.length ≤ (rowTx l).length + 4) ∨ ∃ b : List Int, b.length ≤ 5000 ∧ bs = b ++ List.replicate 3000 (0 : Int)) ∧ Bs w' ar bs.length bs ∧ Past g w w' ∧ Cur w' g a len cap
set_option maxHeartbeats 4000000 in
theorem l2texts_any (g : Nat) (a : Option Addr) (len cap : Nat) (w : World) (hlen : len ≤ 9223372036854775807) (hC : Cur w g a len cap) :
    Calls Tryz.prog 17 #[.pointer (some ⟨g, 0, none⟩)] w (TextsRes g a len cap w) := by
  have O := fun w (n : Nat) (h : Cur w g a len cap) (h1 : 1 ≤ n) (h2 : n ≤ 256) => l1Once_any g a len cap n w hlen h h1 h2
  have GR := l2graph_may g a len cap w hlen hC
  have SP := fun ab n cb us w h1 h2 h3 => l2spoil_any g a len cap ab n cb us w hlen h1 h2 h3
  have hgl := hC.lt
  have HC : Hid (Cur w g a len cap) := hC
  clear hC
  go_enter Tryz.func17, Tryz.ntmps17
  go_wp2_with fail
  refine GR.mono ?_
  rintro e w1 ⟨v, l, rfl, hO, hl, hG, hP1, hC1⟩
  obtain ⟨ag, ng, cg, rfl⟩ := hO.slice
  obtain rfl := hO.len
  have HL2 : Hid (l.length ≤ 20) := hl
  have HK : Hid (∀ y ∈ l, S3K y.t y.u y.v y.bt y.bu y.bv) := fun y hy => (hG y hy).s
  have hrl := rowTx_len HK.out
  have hT := l2text_row hO (by omega) (fun y hy => ⟨(hG y hy).t.bs, (hG y hy).u.bs, (hG y hy).v.bs⟩) HK.out
  have HP1 : Hid (Past g w w1) := hP1
  have HC1 : Hid (Cur w1 g a len cap) := hC1
  have hs1 := hP1.size
  clear GR hO hG hP1 hC1
  go_wp2_with fail
  refine hT.mono ?_
  rintro e w2 ⟨a2, c2, rfl, hT2, hb2⟩
  have HT2 : Hid (Tz w2 w.heap.size a2 (rowTx l).length c2 (rowTx l)) := hT2.mono hs1
  have HP2 : Hid (Past g w w2) := HP1.out.trans (Past.of_below hb2)
  have HC2 : Hid (Cur w2 g a len cap) := HC1.out.below hb2
  have hs2 := hb2.size
  have hn2 : (rowTx l).length ≤ 4000 := by omega
  clear hT hT2 hb2 HP1 HC1 hrl hl
  obtain ⟨L, hL⟩ : ∃ L, L = rowTx l := ⟨_, rfl⟩
  rw [← hL] at hn2 HT2 ⊢
  have HRT : Hid (L.length = (rowTx l).length) := by show _ = _; rw [hL]
  clear hL
  obtain ⟨n2, hn2'⟩ : ∃ n2, n2 = L.length := ⟨_, rfl⟩
  rw [← hn2'] at hn2 HT2 ⊢
  have HN2 : Hid (n2 = L.length) := hn2'
  clear hn2'
  go_wp2_with fail
  refine (O _ 2 HC2.out (by omega) (by omega)).mono ?_
  rintro e w3 ⟨p, rfl, hP3, hC3⟩
  have HT3 : Hid (Tz w3 w.heap.size a2 n2 c2 L) := HT2.out.past hP3 hgl
  have HP3 : Hid (Past g w w3) := HP2.out.trans hP3
  have HC3 : Hid (Cur w3 g a len cap) := hC3
  have hs3 := hP3.size
  clear hP3 hC3 HT2 HP2 HC2
  cases p
  · go_wp2_with fail
    refine (O _ 50 HC3.out (by omega) (by omega)).mono ?_
    rintro e w7 ⟨q, rfl, hP7, hC7⟩
    have HT7 : Hid (Tz w7 w.heap.size a2 n2 c2 L) := HT3.out.past hP7 hgl
    have HP7 : Hid (Past g w w7) := HP3.out.trans hP7
    have HC7 : Hid (Cur w7 g a len cap) := hC7
    have hs7 := hP7.size
    have hB7 : w.heap.size ≤ w7.heap.size := by omega
    clear hP7 hC7 HT3 HP3 HC3 O
    cases q
    · go_wp2_with fail
      go_ret
      exact ⟨a2, c2, L, by rw [← HN2.out]; rfl, .inl ⟨l, HL2.out, HK.out, by have := HRT.out; have := HN2.out; omega⟩, by rw [← HN2.out]; exact HT7.out.1, HP7.out, HC7.out⟩
    · go_wp2_with (refine list_app8n 3000 (by decide) (by decide) rfl (.tmp 14) (.const (.int .i64 3000)) rfl w.heap.size n2 c2 a2 L rfl HT7 rfl (by omega) hB7 ?_; intro g8 cap8 w8 HT8 HD8)
      go_ret
      have hl8 : (L ++ List.replicate 3000 (0 : Int)).length = n2 + 3000 := by rw [List.length_append, List.length_replicate, ← HN2.out]
      exact ⟨some ⟨g8, 0, none⟩, cap8, L ++ List.replicate 3000 (0 : Int), by rw [hl8]; rfl, .inr ⟨L, by rw [← HN2.out]; omega, rfl⟩, by rw [hl8]; exact HT8.out.1, HP7.out.onto HD8.out, HC.out.onto HC7.out HP7.out HD8.out⟩
  · go_wp2_with fail
    refine (SP a2 n2 c2 L _ HC3.out HT3.out.1 (by omega)).mono ?_
    rintro e w4 ⟨a4, c4, bs4, rfl, hl4, hT4, hP4, hC4⟩
    have HB4 : Hid (bs4.length ≤ n2 + 4) := hl4
    have HT4 : Hid (Tz w4 w.heap.size a4 bs4.length c4 bs4) := hT4.mono (by omega)
    have HP4 : Hid (Past g w w4) := HP3.out.trans hP4
    have HC4 : Hid (Cur w4 g a len cap) := hC4
    have hs4 := hP4.size
    obtain ⟨n4, hn4'⟩ : ∃ n4, n4 = bs4.length := ⟨_, rfl⟩
    rw [← hn4'] at hl4 HT4 ⊢
    have HN4 : Hid (n4 = bs4.length) := hn4'
    clear hn4' hT4 hP4 hC4 HT3 HP3 HC3 SP
    go_wp2_with fail
    refine (O _ 50 HC4.out (by omega) (by omega)).mono ?_
    rintro e w7 ⟨q, rfl, hP7, hC7⟩
    have HT7 : Hid (Tz w7 w.heap.size a4 n4 c4 bs4) := HT4.out.past hP7 hgl
    have HP7 : Hid (Past g w w7) := HP4.out.trans hP7
    have HC7 : Hid (Cur w7 g a len cap) := hC7
    have hs7 := hP7.size
    have hB7 : w.heap.size ≤ w7.heap.size := by omega
    clear hP7 hC7 HT4 HP4 HC4 O
    cases q
    · go_wp2_with fail
      go_ret
      exact ⟨a4, c4, bs4, by rw [← HN4.out]; rfl, .inl ⟨l, HL2.out, HK.out, by have := HRT.out; have := HN2.out; have := HB4.out; omega⟩, by rw [← HN4.out]; exact HT7.out.1, HP7.out, HC7.out⟩
    · go_wp2_with (refine list_app8n 3000 (by decide) (by decide) rfl (.tmp 14) (.const (.int .i64 3000)) rfl w.heap.size n4 c4 a4 bs4 rfl HT7 rfl (by omega) hB7 ?_; intro g8 cap8 w8 HT8 HD8)
      go_ret
      have hl8 : (bs4 ++ List.replicate 3000 (0 : Int)).length = n4 + 3000 := by rw [List.length_append, List.length_replicate, ← HN4.out]
      exact ⟨some ⟨g8, 0, none⟩, cap8, bs4 ++ List.replicate 3000 (0 : Int), by rw [hl8]; rfl, .inr ⟨bs4, by rw [← HN4.out]; omega, rfl⟩, by rw [hl8]; exact HT8.out.1, HP7.out.onto HD8.out, HC.out.onto HC7.out HP7.out HD8.out⟩
theorem code_below {w w' : World} {a : Option Addr} {len : Nat} (h : Code w a len) (hb : Below w.heap.size w w') : Code w' a len := by
  rcases h with hc | ⟨b, off, ha, hlt, hc⟩
  · exact .inl hc
  · refine .inr ⟨b, off, ha, Nat.lt_of_lt_of_le hlt hb.size, fun i hi => ?_⟩
    rw [hb.cell (p := ⟨b, off + i, none⟩) hlt]
    exact hc i hi
set_option maxHeartbeats 1000000 in
theorem drawGraphRead_any (a : Option Addr) (len cap : Nat) (w : World) (hlen : len ≤ 9223372036854775807) (hC : Code w a len) :
    Calls Tryz.prog 6 #[.slice a len cap] w fun e w' => ∃ ar cr bs, e = .returned (.slice ar bs.length cr) ∧ ((∃ l : List G1, l.length ≤ 20 ∧ (∀ y ∈ l, S3K y.t y.u y.v y.bt y.bu y.bv) ∧ bs.length ≤ (rowTx l).length + 4) ∨ ∃ b : List Int, b.length ≤ 5000 ∧ bs = b ++ List.replicate 3000 (0 : Int)) ∧ Bs w' ar bs.length bs ∧ Below w.heap.size w w' := by
  have NW := l1New_any a len cap w hlen hC
  clear hC
  go_enter Tryz.func6, Tryz.ntmps6
  go_wp2_with fail
  refine NW.mono ?_
  rintro e w1 ⟨rfl, hb1, hC1⟩
  have HB1 : Hid (Below w.heap.size w w1) := hb1
  have hX := l2texts_any w.heap.size a len cap w1 hlen hC1
  clear hb1 hC1 NW
  go_wp2_with fail
  refine hX.mono ?_
  rintro e w2 ⟨ar, cr, bs, rfl, hor, hbs, hP, _⟩
  have HOR : Hid _ := hor
  have HBS : Hid (Bs w2 ar bs.length bs) := hbs
  have HB2 : Hid (Below w.heap.size w w2) := HB1.out.trans (hP.below (Nat.le_refl _) HB1.out.size)
  clear hX hor hbs hP
  go_wp2_with fail
  go_ret
  exact ⟨ar, cr, bs, rfl, HOR.out, HBS.out, HB2.out⟩
end Go.Proofs.YtiodiooaaojbhaaGreatDoor

/- RdC -/
namespace Go.Proofs.YtiodiooaaojbhaaGreatDoor
open Go.RowKit Go.Deep
set_option maxRecDepth 100000

/-- What a text says, between its signs. -/
def unq : Bool → List Int → List Int
  | _, [] => []
  | true, b :: r => b :: unq false r
  | false, [_] => []
  | false, b :: c :: r => if b = 92 then unq true (c :: r) else b :: unq false (c :: r)
theorem unq_esc (tx : List Int) : unq false (esc tx ++ [34]) = tx := by
  induction tx with
  | nil => rfl
  | cons b tx ih =>
    have e : esc (b :: tx) = (if b = 34 ∨ b = 92 then [92, b] else [b]) ++ esc tx := rfl
    obtain ⟨c, r, hc⟩ : ∃ c r, esc tx ++ [34] = c :: r := by
      cases h : esc tx with
      | nil => exact ⟨34, [], rfl⟩
      | cons c r => exact ⟨c, r ++ [34], rfl⟩
    rw [e]
    split
    · simp only [List.cons_append, List.nil_append]
      rw [unq, if_pos rfl, unq, ih]
    · rename_i h
      simp only [List.cons_append, List.nil_append]
      rw [hc, unq, if_neg (by omega), ← hc, ih]
theorem unq_byt : ∀ (l : List Int) (f : Bool), Byt l → Byt (unq f l)
  | [], f, _ => by cases f <;> exact Byt.nil
  | b :: r, true, h => Byt.cons (h b (List.mem_cons_self ..)) (unq_byt r false fun x hx => h x (List.mem_cons_of_mem _ hx))
  | [_], false, _ => Byt.nil
  | b :: c :: r, false, h => by
    rw [unq]
    split
    · exact unq_byt (c :: r) true fun x hx => h x (List.mem_cons_of_mem _ hx)
    · exact Byt.cons (h b (List.mem_cons_self ..)) (unq_byt (c :: r) false fun x hx => h x (List.mem_cons_of_mem _ hx))
theorem unq_len : ∀ (l : List Int) (f : Bool), (unq f l).length ≤ l.length
  | [], f => by cases f <;> simp [unq]
  | b :: r, true => by have := unq_len r false; simp [unq]; omega
  | [_], false => by simp [unq]
  | b :: c :: r, false => by
    have h1 := unq_len (c :: r) true
    have h2 := unq_len (c :: r) false
    rw [unq]
    split <;> simp at * <;> omega
theorem nums_byt (s : ByteArray) : Byt (numsOf s) := by
  intro x hx
  simp only [numsOf, List.mem_map] at hx
  obtain ⟨b, _, rfl⟩ := hx
  have := b.toNat_lt
  omega

/-- A row of bytes that may not be there yet. -/
def OwnB (w : World) (B : Nat) (v : Value) (bs : List Int) : Prop := w.ownsRow B 5 1 v bs.length (bs.map (Value.int .u8)) ∧ ((v = .slice none 0 0 ∧ bs = []) ∨ ∃ g cap, v = .slice (some ⟨g, 0, none⟩) bs.length cap ∧ Row8 w B g bs.length cap bs)
theorem OwnB.nil (w : World) (B : Nat) : OwnB w B (.slice none 0 0) [] := ⟨World.ownsRow_nil _ _ _ _, .inl ⟨rfl, rfl⟩⟩
theorem OwnB.of {w : World} {B g n cap : Nat} {bs : List Int} (h : Row8 w B g n cap bs) : OwnB w B (.slice (some ⟨g, 0, none⟩) n cap) bs := by
  have e := h.len
  subst e
  exact ⟨h.1, .inr ⟨g, cap, rfl, h⟩⟩
theorem OwnB.below {w w' : World} {B : Nat} {v : Value} {bs : List Int} (h : OwnB w B v bs) (hb : Below w.heap.size w w') : OwnB w' B v bs := by
  rcases h.2 with ⟨rfl, rfl⟩ | ⟨g, cap, rfl, hr⟩
  · exact OwnB.nil _ _
  · exact OwnB.of (hr.below hb)
theorem OwnB.tx {w w0 : World} {v : Value} {bs : List Int} (h : OwnB w w0.heap.size v bs) (hy : Byt bs) (hl : bs.length ≤ 1048576) (hb : Below w0.heap.size w0 w) : TxRes w0 bs (.returned v) w := by
  rcases h.2 with ⟨rfl, rfl⟩ | ⟨g, cap, rfl, hr⟩
  · exact ⟨none, 0, rfl, Nw.nil _ _, hb⟩
  · exact ⟨_, cap, rfl, hr.nw hy hl, hb⟩

set_option maxHeartbeats 1000000 in
theorem unquoted_any (s : ByteArray) (w : World) (h1 : 1 ≤ s.size) (hs : s.size ≤ 1048576) :
    Calls Tryz.prog 73 #[.string s] w fun e w' => TxRes w (unq false ((numsOf s).drop 1)) e w' := by
  have HY : Hid (Byt (unq false ((numsOf s).drop 1))) := unq_byt _ _ fun x hx => nums_byt s x (List.mem_of_mem_drop hx)
  have hL := unq_len ((numsOf s).drop 1) false
  rw [List.length_drop, numsOf_len] at hL
  generalize hE : unq false ((numsOf s).drop 1) = E at *
  have HE : Hid (unq false ((numsOf s).drop 1) = E) := hE
  have HL : Hid (E.length ≤ 1048576) := by show _ ≤ _; omega
  clear hE hL
  go_enter Tryz.func73, Tryz.ntmps73
  go_wp2_with fail
  go_loopw [3, 4] (fun x i wr => ∃ (k : Nat) (p : List Int) (a : Option Addr) (cap : Nat), 1 ≤ k ∧ k ≤ s.size ∧ i = .int .i64 k ∧ x = .slice a p.length cap ∧ p.length ≤ k ∧ Hid (OwnB wr w.heap.size (.slice a p.length cap) p) ∧ p ++ unq false ((numsOf s).drop k) = E ∧ Hid (Below w.heap.size w wr))
    (fun _ i _ => s.size - (intOf i).toNat)
  case atStart => exact ⟨1, [], none, 0, by omega, h1, rfl, rfl, by simp, OwnB.nil _ _, HE.out, Below.refl _ _⟩
  case round =>
    obtain ⟨k, p, a, cap, hk1, hk, rfl, rfl, hp, HO, hH, HB⟩ := hrel
    have HH : Hid (p ++ unq false ((numsOf s).drop k) = E) := hH
    clear hH HE
    by_cases hlt : k < s.size - 1
    · have HD : Hid ((numsOf s).drop k = ((s[k].toNat : Nat) : Int) :: (numsOf s).drop (k + 1)) := nums_drop s k (by omega)
      have HD2 : Hid ((numsOf s).drop (k + 1) = ((s[k + 1].toNat : Nat) : Int) :: (numsOf s).drop (k + 1 + 1)) := nums_drop s (k + 1) (by omega)
      have hlt1 : k < s.size := by omega
      have hlt2 : k + 1 < s.size := by omega
      have hb1 : (k : Int) < (s.size : Int) - 1 := by omega
      obtain ⟨n, hn⟩ : ∃ n, n = p.length := ⟨_, rfl⟩
      have HN : Hid (p.length = n) := hn.symm
      rw [← hn] at HO hp ⊢
      have HRx : ∀ y : Int, Hid ((wr.alloc (.cells #[.int .u8 y] 5)).ownsRow w.heap.size 5 1 (.slice a n cap) n (p.map (Value.int .u8))) := fun y => by
        have := (HO.out.below (bl_a (.cells #[.int .u8 y] 5))).1
        rw [HN.out] at this
        exact this
      have HBx : ∀ y : Int, Hid (Below w.heap.size w (wr.alloc (.cells #[.int .u8 y] 5))) := fun y => bl_alloc HB.out _
      clear hn HO
      generalize hx : ((s[k].toNat : Nat) : Int) = x at *
      by_cases h92 : x = 92
      · subst h92
        generalize hy : ((s[k + 1].toNat : Nat) : Int) = y at *
        go_wp2_with (refine app8 rfl (.tmp 18) (.tmp 22) rfl w.heap.size _ n p rfl (HRx _) ⟨wr.heap.size, 0, none⟩ 1 _ [y] rfl rfl (one_news wr y) (by omega) (n + 1) rfl _ rfl (by omega) (HBx y).out.size ?_; intro g3 cap3 w3 HR3 HG3 HA3 HW3)
        go_roundw
        case rel =>
          refine ⟨k + 2, p ++ [y], some ⟨g3, 0, none⟩, cap3, by omega, by omega, by go_num, ?_, ?_, ?_, ?_, ?_⟩
          · rw [List.length_append, HN.out]; rfl
          · have := HN.out; rw [List.length_append]; simp; omega
          · have := OwnB.of HR3.out; rw [List.length_append, HN.out]; exact this
          · have e := HH.out; rw [HD.out, HD2.out, unq, if_pos rfl, unq] at e; rw [← e]; simp
          · exact (HBx y).out.trans HW3.out
        case measure => simp [intOf]; omega
      · have h92' : (x == 92) = false := by simp [h92]
        go_wp2_with (refine app8 rfl (.tmp 18) (.tmp 22) rfl w.heap.size _ n p rfl (HRx _) ⟨wr.heap.size, 0, none⟩ 1 _ [x] rfl rfl (one_news wr x) (by omega) (n + 1) rfl _ rfl (by omega) (HBx x).out.size ?_; intro g3 cap3 w3 HR3 HG3 HA3 HW3)
        go_roundw
        case rel =>
          refine ⟨k + 1, p ++ [x], some ⟨g3, 0, none⟩, cap3, by omega, by omega, by go_num, ?_, ?_, ?_, ?_, ?_⟩
          · rw [List.length_append, HN.out]; rfl
          · have := HN.out; rw [List.length_append]; simp; omega
          · have := OwnB.of HR3.out; rw [List.length_append, HN.out]; exact this
          · have e := HH.out; rw [HD.out, HD2.out, unq, if_neg h92, ← HD2.out] at e; rw [← e]; simp
          · exact (HBx x).out.trans HW3.out
        case measure => simp [intOf]; omega
    · have e : unq false ((numsOf s).drop k) = [] := by
        by_cases h2 : k < s.size
        · rw [nums_drop s k h2, nums_end s (k + 1) (by omega), unq]
        · rw [nums_end s k h2, unq]
      have e2 := HH.out
      rw [e, List.append_nil] at e2
      subst e2
      have hb1 : ¬ (k : Int) < (s.size : Int) - 1 := by omega
      clear HH e
      go_wp2_with fail
      go_ret
      exact HO.out.tx HY.out HL.out HB.out
end Go.Proofs.YtiodiooaaojbhaaGreatDoor

/- RdD -/
namespace Go.Proofs.YtiodiooaaojbhaaGreatDoor
open Go.RowKit Go.Deep
set_option maxRecDepth 100000

def numsU (l : List UInt8) : List Int := l.map (fun b => (b.toNat : Int))
theorem numsOf_u (s : ByteArray) : numsOf s = numsU s.data.toList := rfl
theorem numsU_46 (b : UInt8) : (b == 46) = decide ((b.toNat : Int) = 46) := by
  rw [Bool.eq_iff_iff, beq_iff_eq, decide_eq_true_eq]
  constructor
  · rintro rfl; rfl
  · intro h
    apply UInt8.toNat_inj.1
    have : b.toNat = 46 := by omega
    rw [this]
    rfl
theorem index_cut (l : List UInt8) : (Lib.indexByte l 46 = -1 ∧ cutDot (numsU l) = (numsU l, [])) ∨ ∃ i : Nat, Lib.indexByte l 46 = i ∧ i < l.length ∧ cutDot (numsU l) = ((numsU l).take i, (numsU l).drop (i + 1)) := by
  induction l with
  | nil => exact .inl ⟨rfl, rfl⟩
  | cons b l ih =>
    have eN : numsU (b :: l) = (b.toNat : Int) :: numsU l := rfl
    rw [Lib.indexByte, numsU_46, eN, cutDot]
    by_cases hb : (b.toNat : Int) = 46
    · right
      refine ⟨0, by simp [hb], by simp, by simp [hb]⟩
    · rw [if_neg hb]
      rcases ih with ⟨h1, h2⟩ | ⟨i, h1, h2, h3⟩
      · left
        refine ⟨by simp [hb, h1], by rw [h2]⟩
      · right
        refine ⟨i + 1, ?_, by simp; omega, by rw [h3]; rfl⟩
        have hne : ((i : Int) == -1) = false := by simp
        rw [h1]
        simp [hb, hne]
def CutRes (s : ByteArray) (w : World) (e : Ending) (w' : World) : Prop := ∃ a b q, e = .returned (.tuple #[.string a, .string b, .bool q]) ∧ numsOf a = (cutDot (numsOf s)).1 ∧ numsOf b = (cutDot (numsOf s)).2 ∧ Below w.heap.size w w'
theorem cut1_any (s : ByteArray) (w : World) (hs : s.size ≤ 1048576) :
    Calls Tryz.prog 118 #[.string s, .string ⟨#[46]⟩] w (CutRes s w) := by
  have I := Tryz.stringslite_Index_one s 46
  have HC := index_cut s.data.toList
  have hm : (Tryz.prog).follows .mixedOrders = true := by kernel_rfl
  generalize Lib.indexByte s.data.toList 46 = ix at *
  rcases HC with ⟨rfl, h2⟩ | ⟨i, rfl, h2, h3⟩
  · have HC : Hid (cutDot (numsOf s) = (numsOf s, [])) := h2
    clear h2
    go_enter Tryz.func118, Tryz.ntmps118
    go_wp2_with (first | (go_at_call 127; refine (I _).mono ?_; rintro e w1 ⟨rfl, rfl⟩))
    refine bodyPost_ret (v := .tuple #[.string s, .string ⟨#[]⟩, .bool false]) (by simp [results, Tryz.results118, go_sem]) rfl ?_
    refine ⟨s, ⟨#[]⟩, false, rfl, ?_, ?_, Below.refl _ _⟩
    · rw [HC.out]
    · rw [HC.out]; rfl
  · have HC : Hid (cutDot (numsOf s) = ((numsOf s).take i, (numsOf s).drop (i + 1))) := h3
    have hi : i < s.size := by simpa using h2
    clear h2 h3
    go_enter Tryz.func118, Tryz.ntmps118
    go_wp2_with (first | (go_at_call 127; refine (I _).mono ?_; rintro e w1 ⟨rfl, rfl⟩))
    go_quiet (fail)
    all_goals go_wp2_with fail
    refine bodyPost_ret (v := .tuple #[.string (s.extract 0 i), .string (s.extract (i + 1) s.size), .bool true]) (by simp [results, Tryz.results118, go_sem]) rfl ?_
    refine ⟨_, _, true, rfl, ?_, ?_, below_drewN (Below.refl _ _) _⟩
    · rw [HC.out, nums_extract]; simp
    · rw [HC.out, nums_extract, List.take_of_length_le]
      rw [List.length_drop, numsOf_len]
      omega
theorem cut_any (s : ByteArray) (w : World) (hs : s.size ≤ 1048576) :
    Calls Tryz.prog 103 #[.string s, .string ⟨#[46]⟩] w (CutRes s w) := by
  go_enter Tryz.func103, Tryz.ntmps103
  go_wp2_with fail
  refine (cut1_any s _ hs).mono ?_
  rintro e w1 ⟨a, b, q, rfl, h1, h2, h3⟩
  have H1 : Hid (numsOf a = (cutDot (numsOf s)).1) := h1
  have H2 : Hid (numsOf b = (cutDot (numsOf s)).2) := h2
  have H3 : Hid (Below w.heap.size w w1) := h3
  clear h1 h2 h3
  go_wp2_with fail
  refine bodyPost_ret (v := .tuple #[.string a, .string b, .bool q]) (by simp [results, Tryz.results103, go_sem]) rfl ?_
  exact ⟨a, b, q, rfl, H1.out, H2.out, H3.out⟩

/-- The library's errors lie where they should. -/
def Errs (w : World) : Prop := 1 < w.heap.size ∧ 2 < w.heap.size ∧ (∃ t p, w.cell? ⟨1, 0, none⟩ = some (.iface t p)) ∧ ∃ t p, w.cell? ⟨2, 0, none⟩ = some (.iface t p)
theorem Errs.below {w w' : World} (h : Errs w) (hb : Below w.heap.size w w') : Errs w' := by
  obtain ⟨h1, h2, ⟨t, p, h3⟩, t', p', h4⟩ := h
  exact ⟨Nat.lt_of_lt_of_le h1 hb.size, Nat.lt_of_lt_of_le h2 hb.size, ⟨t, p, (hb.cell (p := ⟨1, 0, none⟩) h1).trans h3⟩, t', p', (hb.cell (p := ⟨2, 0, none⟩) h2).trans h4⟩
/-- What Atoi answers: a number and no error, or an error. -/
def AtoiRes (s : ByteArray) (w : World) (e : Ending) (w' : World) : Prop :=
  (∃ v, Lib.atoiAll s.data.toList = .ok v ∧ e = .returned (.tuple #[.int .i64 v, .nilIface]) ∧ Below w.heap.size w w') ∨ (∃ v t p, (∀ u, Lib.atoiAll s.data.toList ≠ .ok u) ∧ e = .returned (.tuple #[.int .i64 v, .iface t p]) ∧ Below w.heap.size w w')
theorem atoi_any (s : ByteArray) (w : World) (hs : s.size ≤ 1048576) (hE : Errs w) : Calls Tryz.prog 104 #[.string s] w (AtoiRes s w) := by
  obtain ⟨_, _, ⟨t1, p1, h3⟩, t2, p2, h4⟩ := hE
  cases h : Lib.atoiAll s.data.toList with
  | ok v =>
    refine (Tryz.strconv_Atoi_ok s (by omega) v h w).mono ?_
    rintro e w' ⟨rfl, rfl | ⟨t, rfl⟩⟩
    · exact .inl ⟨v, h, rfl, Below.refl _ _⟩
    · exact .inl ⟨v, h, rfl, bytesWorld_below _ _ _⟩
  | «syntax» =>
    refine (Tryz.strconv_Atoi_syntax s (by omega) h _ w h3 (.inr ⟨t1, p1, rfl⟩)).mono ?_
    rintro e w' ⟨N, rfl, _, _, hb⟩
    exact .inr ⟨_, _, _, fun u => by rw [h]; simp, rfl, hb⟩
  | range =>
    refine (Tryz.strconv_Atoi_range s (by omega) h _ w h4 (.inr ⟨t2, p2, rfl⟩)).mono ?_
    rintro e w' ⟨N, rfl, _, _, hb⟩
    exact .inr ⟨_, _, _, fun u => by rw [h]; simp, rfl, hb⟩

theorem parse_dig : ∀ (l : List UInt8) (acc : Nat), (∀ x ∈ numsU l, 48 ≤ x ∧ x ≤ 57) → acc * 10 ^ l.length + valL (numsU l) ≤ 9000000000000000000 → Lib.parseUint10 acc l = .ok (acc * 10 ^ l.length + valL (numsU l))
  | [], acc, _, _ => by simp [Lib.parseUint10, numsU, valL]
  | c :: r, acc, hd, hb => by
    have hc := hd (c.toNat : Int) (List.mem_cons_self ..)
    have e : acc * 10 ^ (c :: r).length + valL (numsU (c :: r)) = (acc * 10 + (c.toNat - 48)) * 10 ^ r.length + valL (numsU r) := by
      have e1 : valL (numsU (c :: r)) = (c.toNat - 48) * 10 ^ r.length + valL (numsU r) := by
        have := valL_append [(c.toNat : Int)] (numsU r)
        have e2 : numsU (c :: r) = [(c.toNat : Int)] ++ numsU r := rfl
        rw [e2, this]
        have e3 : valL [(c.toNat : Int)] = c.toNat - 48 := by simp [valL]; omega
        have e4 : (numsU r).length = r.length := by simp [numsU]
        rw [e3, e4]
      rw [e1, List.length_cons, Nat.pow_succ, Nat.add_mul, Nat.mul_assoc, Nat.mul_comm 10]
      omega
    rw [e] at hb ⊢
    have hp : 1 ≤ 10 ^ r.length := Nat.pow_pos (by omega)
    have hle : acc * 10 + (c.toNat - 48) ≤ (acc * 10 + (c.toNat - 48)) * 10 ^ r.length := Nat.le_mul_of_pos_right _ hp
    rw [Lib.parseUint10, if_pos (by omega), if_neg (by omega), if_neg (by omega), parse_dig r _ (fun x hx => hd x (List.mem_cons_of_mem _ hx)) hb]
theorem atoi_digits {l : List UInt8} {D : List Int} (hl : numsU l = D) (h0 : D ≠ []) (hd : ∀ x ∈ D, 48 ≤ x ∧ x ≤ 57) (hb : valL D ≤ 9000000000000000000) : Lib.atoiAll l = .ok (valL D : Nat) := by
  subst hl
  cases l with
  | nil => exact absurd rfl h0
  | cons c r =>
    have hc := hd (c.toNat : Int) (List.mem_cons_self ..)
    have hp := parse_dig (c :: r) 0 hd (by simpa using hb)
    have hn : ¬ (c.toNat = 43 ∨ c.toNat = 45) := by omega
    have hn2 : ¬ c.toNat = 45 := by omega
    have e : Lib.parseMag (c :: r) = .ok (valL (numsU (c :: r))) := by
      unfold Lib.parseMag
      rw [if_neg (by simp), hp]
      simp
    simp only [Lib.atoiAll]
    rw [if_neg hn, e]
    simp [hn2]
    omega
theorem atoi_minus {l : List UInt8} {D : List Int} (hl : numsU l = 45 :: D) (h0 : D ≠ []) (hd : ∀ x ∈ D, 48 ≤ x ∧ x ≤ 57) (hb : valL D ≤ 9000000000000000000) : Lib.atoiAll l = .ok (-(valL D : Nat)) := by
  cases l with
  | nil => simp [numsU] at hl
  | cons c r =>
    have e0 : (c.toNat : Int) = 45 ∧ numsU r = D := by simpa [numsU] using hl
    obtain ⟨hc, rfl⟩ := e0
    have hc : c.toNat = 45 := by omega
    have hr : r ≠ [] := fun e => h0 (by rw [e]; rfl)
    have hp := parse_dig r 0 hd (by simpa using hb)
    have e : Lib.parseMag r = .ok (valL (numsU r)) := by
      unfold Lib.parseMag
      rw [if_neg hr, hp]
      simp
    unfold Lib.atoiAll
    simp only [hc, or_true, if_true, e]
    simp
    omega
end Go.Proofs.YtiodiooaaojbhaaGreatDoor
