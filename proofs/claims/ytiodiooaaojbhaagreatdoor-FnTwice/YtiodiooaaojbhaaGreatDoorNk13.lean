/- Texts put together: GdrP -/
import Derived.Test.YtiodiooaaojbhaaGreatDoorNk09
import Derived.Test.YtiodiooaaojbhaaGreatDoorNk12
/- GdrP -/
namespace Go.Proofs.YtiodiooaaojbhaaGreatDoor
open Go.RowKit Go.Deep
set_option maxRecDepth 100000

/-- A term that may be, of such a kind. -/
def SK (q : Int → Prop) (t : Tm) (b : List Int) : Prop := (0 ≤ t.s ∧ t.s ≤ 6) ∧ termOk t.k b t.n t.s = true ∧ q t.k
def kS (k : Int) : Prop := k ≤ 1
def kP (k : Int) : Prop := k = 0
def kO (_ : Int) : Prop := True
/-- A triple that may be. -/
def S3K (t u v : Tm) (bt bu bv : List Int) : Prop := SK kS t bt ∧ SK kP u bu ∧ SK kO v bv
theorem SK.mono {q q' : Int → Prop} {t : Tm} {b : List Int} (h : SK q t b) (hq : ∀ k, q k → q' k) : SK q' t b := ⟨h.1, h.2.1, hq _ h.2.2⟩
theorem TermResK.dt {q : Int → Prop} {B : Nat} {e : Ending} {w : World} (h : TermResK q B e w) : ∃ (t : Tm) (b : List Int), e = .returned (.agg #[.int .i64 t.k, .slice t.a t.len t.cap, .int .i64 t.n, .int .i64 t.s]) ∧ DT w B w.heap.size t b ∧ SK q t b := by
  obtain ⟨k, n, s, a, len, cap, bs, rfl, hn, hs, hl, hT, hok, hq⟩ := h
  exact ⟨⟨k, a, len, cap, n, s⟩, bs, rfl, ⟨⟨hn.1, hn.2, by show _ ≤ s; omega, by show s ≤ _; omega⟩, by show len ≤ 200; omega, hT.b.1, hT.b.2, Nat.le_refl _⟩, hs, hok, hq⟩
/-- What a draw of a triple answers. -/
def TripDrawnK (g : Nat) (a : Option Addr) (len cap : Nat) (w : World) (e : Ending) (w' : World) : Prop :=
  (∃ (t u v : Tm) (bt bu bv : List Int), e = .returned (.agg (e12 t u v).toArray) ∧ S3K t u v bt bu bv ∧ DT w' w.heap.size w'.heap.size t bt ∧ DT w' w.heap.size w'.heap.size u bu ∧ DT w' w.heap.size w'.heap.size v bv) ∧ Past g w w' ∧ Cur w' g a len cap
/-- A string that is a name. -/
def NameS (s : ByteArray) : Prop := s.size ≤ 100 ∧ termOk 0 (numsOf s) 0 0 = true
theorem names4 (w : World) (s0 s1 s2 s3 : ByteArray) (T : TypeId) (x : Nat) (hx : x < 4) (h : NameS s0 ∧ NameS s1 ∧ NameS s2 ∧ NameS s3) : ∃ s : ByteArray, NameS s ∧ (w.alloc (.cells #[.string s0, .string s1, .string s2, .string s3] T)).cell? ⟨w.heap.size, x, none⟩ = some (.string s) := by
  rcases (by omega : x = 0 ∨ x = 1 ∨ x = 2 ∨ x = 3) with rfl | rfl | rfl | rfl
  · exact ⟨s0, h.1, by simp [go_sem]⟩
  · exact ⟨s1, h.2.1, by simp [go_sem]⟩
  · exact ⟨s2, h.2.2.1, by simp [go_sem]⟩
  · exact ⟨s3, h.2.2.2, by simp [go_sem]⟩
theorem names3 (w : World) (s0 s1 s2 : ByteArray) (T : TypeId) (x : Nat) (hx : x < 3) (h : NameS s0 ∧ NameS s1 ∧ NameS s2) : ∃ s : ByteArray, NameS s ∧ (w.alloc (.cells #[.string s0, .string s1, .string s2] T)).cell? ⟨w.heap.size, x, none⟩ = some (.string s) := by
  rcases (by omega : x = 0 ∨ x = 1 ∨ x = 2) with rfl | rfl | rfl
  · exact ⟨s0, h.1, by simp [go_sem]⟩
  · exact ⟨s1, h.2.1, by simp [go_sem]⟩
  · exact ⟨s2, h.2.2, by simp [go_sem]⟩
theorem names_abcd : NameS { data := #[97] } ∧ NameS { data := #[98] } ∧ NameS { data := #[99] } ∧ NameS { data := #[100] } := ⟨⟨by decide, by decide⟩, ⟨by decide, by decide⟩, ⟨by decide, by decide⟩, by decide, by decide⟩
theorem names_pqr : NameS { data := #[112] } ∧ NameS { data := #[113] } ∧ NameS { data := #[114] } := ⟨⟨by decide, by decide⟩, ⟨by decide, by decide⟩, by decide, by decide⟩
set_option maxHeartbeats 8000000 in
theorem l2triple_may (g : Nat) (a : Option Addr) (len cap : Nat) (w : World) (hlen : len ≤ 9223372036854775807) (hC : Cur w g a len cap) :
    Calls Tryz.prog 60 #[.pointer (some ⟨g, 0, none⟩)] w (TripDrawnK g a len cap w) := by
  have B := fun w (n : Nat) (h : Cur w g a len cap) (h1 : 1 ≤ n) (h2 : n ≤ 256) => l1Below_any g a len cap n w hlen h h1 h2
  have O := fun w (n : Nat) (h : Cur w g a len cap) (h1 : 1 ≤ n) (h2 : n ≤ 256) => l1Once_any g a len cap n w hlen h h1 h2
  have TM := fun w h => l1term_may g a len cap w hlen h
  have hgl := hC.lt
  have HC : Hid (Cur w g a len cap) := hC
  clear hC
  go_enter Tryz.func60, Tryz.ntmps60
  go_wp2_with fail
  refine (B _ 4 (HC.out.below (bl_alloc (bl_a _) _)) (by omega) (by omega)).mono ?_
  rintro e w1 ⟨x, rfl, hx, hP1, hC1⟩
  obtain ⟨s1, hs1, hc1⟩ := names4 (w.alloc (.cells #[.int .i64 0, .slice none 0 0, .int .i64 0, .int .i64 0, .int .i64 0, .slice none 0 0, .int .i64 0, .int .i64 0, .int .i64 0, .slice none 0 0, .int .i64 0, .int .i64 0] 45)) { data := #[97] } { data := #[98] } { data := #[99] } { data := #[100] } 9 x hx names_abcd
  have hcs : w1.cell? ⟨w.heap.size + 1, x, none⟩ = some (.string s1) := (hP1.cell (p := ⟨w.heap.size + 1, x, none⟩) (by simp) (by show w.heap.size + 1 ≠ g; omega)).trans (by simpa using hc1)
  have HR1 : Hid (B12 w1 w.heap.size Tm0 Tm0 Tm0) := ((B12.new w Tm0 Tm0 Tm0 45).below (bl_a (.cells #[.string { data := #[97] }, .string { data := #[98] }, .string { data := #[99] }, .string { data := #[100] }] 9))).past hP1 (by omega)
  have HP1 : Hid (Past g w w1) := (Past.of_below (bl_alloc (bl_a (.cells #[.int .i64 0, .slice none 0 0, .int .i64 0, .int .i64 0, .int .i64 0, .slice none 0 0, .int .i64 0, .int .i64 0, .int .i64 0, .slice none 0 0, .int .i64 0, .int .i64 0] 45)) (.cells #[.string { data := #[97] }, .string { data := #[98] }, .string { data := #[99] }, .string { data := #[100] }] 9))).trans hP1
  have HC1 : Hid (Cur w1 g a len cap) := hC1
  have hl1 : w.heap.size + 1 ≤ w1.heap.size := HR1.out.lt
  clear hP1 hC1 hc1
  go_wp2_with fail
  refine (l1name_may s1 _ hs1.1 hs1.2).mono ?_
  rintro e w2 ⟨hT2, hb2⟩
  obtain ⟨t, bt, rfl, hD2, hst⟩ := hT2.dt
  have HSt : Hid (SK kS t bt) := hst.mono fun k h => by show k ≤ 1; omega
  clear hst
  have HDt2 : Hid (DT w2 w1.heap.size w2.heap.size t bt) := hD2
  have HR2 : Hid (B12 w2 w.heap.size Tm0 Tm0 Tm0) := HR1.out.below hb2
  have HP2 : Hid (Past g w w2) := HP1.out.trans (Past.of_below hb2)
  have HC2 : Hid (Cur w2 g a len cap) := HC1.out.below hb2
  have hl2 := hb2.size
  clear hT2 hb2 hD2 hcs HR1 HP1 HC1
  go_wp2_with fail
  refine (B _ 3 (HC2.out.below (bl_a _)) (by omega) (by omega)).mono ?_
  rintro e w3 ⟨x3, rfl, hx3, hP3, hC3⟩
  obtain ⟨s3, hs3, hc3⟩ := names3 w2 { data := #[112] } { data := #[113] } { data := #[114] } 9 x3 hx3 names_pqr
  have hcs : w3.cell? ⟨w2.heap.size, x3, none⟩ = some (.string s3) := (hP3.cell (p := ⟨w2.heap.size, x3, none⟩) (by simp) (by show w2.heap.size ≠ g; omega)).trans hc3
  have hPA : Past g w2 w3 := (Past.of_below (bl_a (.cells #[.string { data := #[112] }, .string { data := #[113] }, .string { data := #[114] }] 9))).trans hP3
  have HDt3 : Hid (DT w3 w1.heap.size w2.heap.size t bt) := HDt2.out.past hPA (.inl (by omega))
  have HR3 : Hid (B12 w3 w.heap.size Tm0 Tm0 Tm0) := HR2.out.past hPA (by omega)
  have HP3 : Hid (Past g w w3) := HP2.out.trans hPA
  have HC3 : Hid (Cur w3 g a len cap) := hC3
  have hl3 := hPA.size
  clear hP3 hC3 hc3 hPA HDt2 HR2 HP2 HC2
  go_wp2_with fail
  refine (l1name_may s3 _ hs3.1 hs3.2).mono ?_
  rintro e w4 ⟨hT4, hb4⟩
  obtain ⟨u, bu, rfl, hD4, hsu⟩ := hT4.dt
  have HSu : Hid (SK kP u bu) := hsu
  clear hsu
  have HDu4 : Hid (DT w4 w3.heap.size w4.heap.size u bu) := hD4
  have HDt4 : Hid (DT w4 w1.heap.size w2.heap.size t bt) := HDt3.out.below hb4
  have HR4 : Hid (B12 w4 w.heap.size Tm0 Tm0 Tm0) := HR3.out.below hb4
  have HP4 : Hid (Past g w w4) := HP3.out.trans (Past.of_below hb4)
  have HC4 : Hid (Cur w4 g a len cap) := HC3.out.below hb4
  have hl4 := hb4.size
  clear hT4 hb4 hD4 hcs HDt3 HR3 HP3 HC3
  go_wp2_with fail
  refine (TM _ HC4.out).mono ?_
  rintro e w5 ⟨hT5, hP5, hC5⟩
  obtain ⟨v, bv, rfl, hD5, hsv⟩ := hT5.dt
  have HSv : Hid (SK kO v bv) := hsv
  clear hsv
  have HDv5 : Hid (DT w5 w4.heap.size w5.heap.size v bv) := hD5
  have HDu5 : Hid (DT w5 w3.heap.size w4.heap.size u bu) := HDu4.out.past hP5 (.inl (by omega))
  have HDt5 : Hid (DT w5 w1.heap.size w2.heap.size t bt) := HDt4.out.past hP5 (.inl (by omega))
  have HR5 : Hid (B12 w5 w.heap.size Tm0 Tm0 Tm0) := HR4.out.past hP5 (by omega)
  have HP5 : Hid (Past g w w5) := HP4.out.trans hP5
  have HC5 : Hid (Cur w5 g a len cap) := hC5
  have hl5 := hP5.size
  clear hT5 hP5 hC5 hD5 HDu4 HDt4 HR4 HP4 HC4
  go_wp2_with fail
  refine (O _ 3 (HC5.out.below (bl_a _)) (by omega) (by omega)).mono ?_
  rintro e w7 ⟨p1, rfl, hP7, hC7⟩
  have hPA : Past g w5 w7 := (Past.of_below (bl_a _)).trans hP7
  have HX : Hid (B12 w7 w5.heap.size t u v) := (B12.new w5 t u v 45).past hP7 (by omega)
  have HR : Hid (B12 w7 w.heap.size Tm0 Tm0 Tm0) := HR5.out.past hPA (by omega)
  have HP : Hid (Past g w w7) := HP5.out.trans hPA
  have HCW : Hid (Cur w7 g a len cap) := hC7
  have HDt : Hid (DT w7 w1.heap.size w2.heap.size t bt) := HDt5.out.past hPA (.inl (by omega))
  have HDu : Hid (DT w7 w3.heap.size w4.heap.size u bu) := HDu5.out.past hPA (.inl (by omega))
  have HDv : Hid (DT w7 w4.heap.size w5.heap.size v bv) := HDv5.out.past hPA (.inl (by omega))
  have hl7 : w5.heap.size + 1 ≤ w7.heap.size := HX.out.lt
  clear hP7 hC7 hPA HR5 HP5 HC5 HDt5 HDu5 HDv5 TM
  cases p1
  · go_wp2_with fail
    refine (O _ 2 HCW.out (by omega) (by omega)).mono ?_
    rintro e w9 ⟨p2, rfl, hP9, hC9⟩
    have HX : Hid (B12 w9 w5.heap.size t u v) := HX.out.past hP9 (by omega)
    have HR : Hid (B12 w9 w.heap.size Tm0 Tm0 Tm0) := HR.out.past hP9 (by omega)
    have HP : Hid (Past g w w9) := HP.out.trans hP9
    have HCW : Hid (Cur w9 g a len cap) := hC9
    have HDt : Hid _ := HDt.out.past hP9 (.inl (by omega))
    have HDu : Hid _ := HDu.out.past hP9 (.inl (by omega))
    have HDv : Hid _ := HDv.out.past hP9 (.inl (by omega))
    have hl9 : w5.heap.size + 1 ≤ w9.heap.size := HX.out.lt
    clear hP9 hC9
    cases p2
    · obtain ⟨⟨x0, x1, x2, x3⟩, ⟨x4, x5, x6, x7⟩, ⟨x8, x9, xa, xb⟩⟩ := HX.out.cells
      obtain ⟨⟨r0, r1, r2, r3⟩, ⟨r4, r5, r6, r7⟩, ⟨r8, r9, ra, rb⟩⟩ := HR.out.cells
      have fr0 := HR.out.f 0 (by omega)
      have fr1 := HR.out.f 1 (by omega)
      have fr2 := HR.out.f 2 (by omega)
      have fr3 := HR.out.f 3 (by omega)
      have fr4 := HR.out.f 4 (by omega)
      have fr5 := HR.out.f 5 (by omega)
      have fr6 := HR.out.f 6 (by omega)
      have fr7 := HR.out.f 7 (by omega)
      have fr8 := HR.out.f 8 (by omega)
      have fr9 := HR.out.f 9 (by omega)
      have fr10 := HR.out.f 10 (by omega)
      have fr11 := HR.out.f 11 (by omega)
      have hRl := HR.out.lt
      have hXl := HX.out.lt
      go_wp2
      have hF : B12 ((((((((((((w9.setCell ⟨w.heap.size, 0, none⟩ (.int .i64 t.k)).setCell ⟨w.heap.size, 1, none⟩ (.slice t.a t.len t.cap)).setCell ⟨w.heap.size, 2, none⟩ (.int .i64 t.n)).setCell ⟨w.heap.size, 3, none⟩ (.int .i64 t.s)).setCell ⟨w.heap.size, 4, none⟩ (.int .i64 u.k)).setCell ⟨w.heap.size, 5, none⟩ (.slice u.a u.len u.cap)).setCell ⟨w.heap.size, 6, none⟩ (.int .i64 u.n)).setCell ⟨w.heap.size, 7, none⟩ (.int .i64 u.s)).setCell ⟨w.heap.size, 8, none⟩ (.int .i64 v.k)).setCell ⟨w.heap.size, 9, none⟩ (.slice v.a v.len v.cap)).setCell ⟨w.heap.size, 10, none⟩ (.int .i64 v.n)).setCell ⟨w.heap.size, 11, none⟩ (.int .i64 v.s)) w.heap.size t u v := ((HR.out.setS t).setP u).setO v
      have hQ : Past w.heap.size w9 ((((((((((((w9.setCell ⟨w.heap.size, 0, none⟩ (.int .i64 t.k)).setCell ⟨w.heap.size, 1, none⟩ (.slice t.a t.len t.cap)).setCell ⟨w.heap.size, 2, none⟩ (.int .i64 t.n)).setCell ⟨w.heap.size, 3, none⟩ (.int .i64 t.s)).setCell ⟨w.heap.size, 4, none⟩ (.int .i64 u.k)).setCell ⟨w.heap.size, 5, none⟩ (.slice u.a u.len u.cap)).setCell ⟨w.heap.size, 6, none⟩ (.int .i64 u.n)).setCell ⟨w.heap.size, 7, none⟩ (.int .i64 u.s)).setCell ⟨w.heap.size, 8, none⟩ (.int .i64 v.k)).setCell ⟨w.heap.size, 9, none⟩ (.slice v.a v.len v.cap)).setCell ⟨w.heap.size, 10, none⟩ (.int .i64 v.n)).setCell ⟨w.heap.size, 11, none⟩ (.int .i64 v.s)) := (((((((((((((Past.refl w.heap.size w9).set 0 _).set 1 _).set 2 _).set 3 _).set 4 _).set 5 _).set 6 _).set 7 _).set 8 _).set 9 _).set 10 _).set 11 _)
      generalize ((((((((((((w9.setCell ⟨w.heap.size, 0, none⟩ (.int .i64 t.k)).setCell ⟨w.heap.size, 1, none⟩ (.slice t.a t.len t.cap)).setCell ⟨w.heap.size, 2, none⟩ (.int .i64 t.n)).setCell ⟨w.heap.size, 3, none⟩ (.int .i64 t.s)).setCell ⟨w.heap.size, 4, none⟩ (.int .i64 u.k)).setCell ⟨w.heap.size, 5, none⟩ (.slice u.a u.len u.cap)).setCell ⟨w.heap.size, 6, none⟩ (.int .i64 u.n)).setCell ⟨w.heap.size, 7, none⟩ (.int .i64 u.s)).setCell ⟨w.heap.size, 8, none⟩ (.int .i64 v.k)).setCell ⟨w.heap.size, 9, none⟩ (.slice v.a v.len v.cap)).setCell ⟨w.heap.size, 10, none⟩ (.int .i64 v.n)).setCell ⟨w.heap.size, 11, none⟩ (.int .i64 v.s)) = wF at hF hQ ⊢
      obtain ⟨⟨y0, y1, y2, y3⟩, ⟨y4, y5, y6, y7⟩, ⟨y8, y9, ya, yb⟩⟩ := hF.cells
      refine bodyPost_ret (v := .agg #[.int .i64 t.k, .slice t.a t.len t.cap, .int .i64 t.n, .int .i64 t.s, .int .i64 u.k, .slice u.a u.len u.cap, .int .i64 u.n, .int .i64 u.s, .int .i64 v.k, .slice v.a v.len v.cap, .int .i64 v.n, .int .i64 v.s]) (by simp [results, Tryz.results60, go_sem, y0, y1, y2, y3, y4, y5, y6, y7, y8, y9, ya, yb]) rfl ?_
      have hPF := past_other HP.out hQ (Nat.le_refl _)
      have hz := hQ.size
      have h1 := HDt.out.le
      have h2 := HDu.out.le
      have h3 := HDv.out.le
      exact ⟨⟨t, u, v, _, _, _, rfl, ⟨HSt.out, HSu.out, HSv.out⟩, (HDt.out.past hQ (.inl (by omega))).mono (by omega) (by omega) (Nat.le_refl _), (HDu.out.past hQ (.inl (by omega))).mono (by omega) (by omega) (Nat.le_refl _), (HDv.out.past hQ (.inl (by omega))).mono (by omega) (by omega) (Nat.le_refl _)⟩, hPF, HC.out.glue HCW.out hPF (hQ.block g HCW.out.lt (by omega))⟩
    · go_wp2_with fail
      refine (B _ 4 (HCW.out.below (bl_a _)) (by omega) (by omega)).mono ?_
      rintro e w10 ⟨y, rfl, hy, hP10, hC10⟩
      obtain ⟨s10, hs10, hc10⟩ := names4 w9 { data := #[97] } { data := #[98] } { data := #[99] } { data := #[100] } 9 y hy names_abcd
      have hcs : w10.cell? ⟨w9.heap.size, y, none⟩ = some (.string s10) := (hP10.cell (p := ⟨w9.heap.size, y, none⟩) (by simp) (by show w9.heap.size ≠ g; omega)).trans hc10
      have hPA : Past g w9 w10 := (Past.of_below (bl_a _)).trans hP10
      have HX : Hid (B12 w10 w5.heap.size t u v) := HX.out.past hPA (by omega)
      have HR : Hid (B12 w10 w.heap.size Tm0 Tm0 Tm0) := HR.out.past hPA (by omega)
      have HP : Hid (Past g w w10) := HP.out.trans hPA
      have HCW : Hid (Cur w10 g a len cap) := hC10
      have HDt : Hid _ := HDt.out.past hPA (.inl (by omega))
      have HDu : Hid _ := HDu.out.past hPA (.inl (by omega))
      have hl10 : w9.heap.size ≤ w10.heap.size := hPA.size
      clear hP10 hC10 hPA hc10
      go_wp2_with fail
      refine (l1name_may s10 _ hs10.1 hs10.2).mono ?_
      rintro e w11 ⟨hT11, hb11⟩
      obtain ⟨v2, bv2, rfl, hD11, hsv2⟩ := hT11.dt
      have HSv2 : Hid (SK kO v2 bv2) := hsv2.mono fun _ _ => trivial
      clear hsv2
      have HX : Hid (B12 w11 w5.heap.size t u v) := HX.out.below hb11
      have HR : Hid (B12 w11 w.heap.size Tm0 Tm0 Tm0) := HR.out.below hb11
      have HP : Hid (Past g w w11) := HP.out.trans (Past.of_below hb11)
      have HCW : Hid (Cur w11 g a len cap) := HCW.out.below hb11
      have HDt : Hid _ := HDt.out.below hb11
      have HDu : Hid _ := HDu.out.below hb11
      have hl11 := hb11.size
      have HD2 : Hid (DT w11 w10.heap.size w11.heap.size v2 bv2) := hD11
      clear hT11 hb11 hcs hD11
      obtain ⟨⟨x0, x1, x2, x3⟩, ⟨x4, x5, x6, x7⟩, ⟨x8, x9, xa, xb⟩⟩ := HX.out.cells
      obtain ⟨⟨r0, r1, r2, r3⟩, ⟨r4, r5, r6, r7⟩, ⟨r8, r9, ra, rb⟩⟩ := HR.out.cells
      have fr0 := HR.out.f 0 (by omega)
      have fr1 := HR.out.f 1 (by omega)
      have fr2 := HR.out.f 2 (by omega)
      have fr3 := HR.out.f 3 (by omega)
      have fr4 := HR.out.f 4 (by omega)
      have fr5 := HR.out.f 5 (by omega)
      have fr6 := HR.out.f 6 (by omega)
      have fr7 := HR.out.f 7 (by omega)
      have fr8 := HR.out.f 8 (by omega)
      have fr9 := HR.out.f 9 (by omega)
      have fr10 := HR.out.f 10 (by omega)
      have fr11 := HR.out.f 11 (by omega)
      have hRl := HR.out.lt
      have hXl := HX.out.lt
      have fx8 := HX.out.f 8 (by omega)
      have fx9 := HX.out.f 9 (by omega)
      have fxa := HX.out.f 10 (by omega)
      have fxb := HX.out.f 11 (by omega)
      obtain ⟨w12, hw12⟩ : ∃ w12, w12 = ((((w11.setCell ⟨w5.heap.size, 8, none⟩ (.int .i64 v2.k)).setCell ⟨w5.heap.size, 9, none⟩ (.slice v2.a v2.len v2.cap)).setCell ⟨w5.heap.size, 10, none⟩ (.int .i64 v2.n)).setCell ⟨w5.heap.size, 11, none⟩ (.int .i64 v2.s)) := ⟨_, rfl⟩
      have hQX : Past w5.heap.size w11 w12 := by rw [hw12]; exact ((((Past.refl w5.heap.size w11).set 8 _).set 9 _).set 10 _).set 11 _
      have HR2 : Hid (B12 w12 w.heap.size Tm0 Tm0 Tm0) := HR.out.past hQX (by omega)
      have HP2 : Hid (Past g w w12) := past_other HP.out hQX (by omega)
      have HCW2 : Hid (Cur w12 g a len cap) := HC.out.glue HCW.out HP2.out (hQX.block g HCW.out.lt (by omega))
      have HDt : Hid _ := HDt.out.past hQX (by omega)
      have HDu : Hid _ := HDu.out.past hQX (.inr (by omega))
      have HD2 : Hid _ := HD2.out.past hQX (.inl (by omega))
      clear hQX
      go_wp2
      rw [← hw12]
      have hF : B12 ((((((((((((w12.setCell ⟨w.heap.size, 0, none⟩ (.int .i64 t.k)).setCell ⟨w.heap.size, 1, none⟩ (.slice t.a t.len t.cap)).setCell ⟨w.heap.size, 2, none⟩ (.int .i64 t.n)).setCell ⟨w.heap.size, 3, none⟩ (.int .i64 t.s)).setCell ⟨w.heap.size, 4, none⟩ (.int .i64 u.k)).setCell ⟨w.heap.size, 5, none⟩ (.slice u.a u.len u.cap)).setCell ⟨w.heap.size, 6, none⟩ (.int .i64 u.n)).setCell ⟨w.heap.size, 7, none⟩ (.int .i64 u.s)).setCell ⟨w.heap.size, 8, none⟩ (.int .i64 v2.k)).setCell ⟨w.heap.size, 9, none⟩ (.slice v2.a v2.len v2.cap)).setCell ⟨w.heap.size, 10, none⟩ (.int .i64 v2.n)).setCell ⟨w.heap.size, 11, none⟩ (.int .i64 v2.s)) w.heap.size t u v2 := ((HR2.out.setS t).setP u).setO v2
      have hQ : Past w.heap.size w12 ((((((((((((w12.setCell ⟨w.heap.size, 0, none⟩ (.int .i64 t.k)).setCell ⟨w.heap.size, 1, none⟩ (.slice t.a t.len t.cap)).setCell ⟨w.heap.size, 2, none⟩ (.int .i64 t.n)).setCell ⟨w.heap.size, 3, none⟩ (.int .i64 t.s)).setCell ⟨w.heap.size, 4, none⟩ (.int .i64 u.k)).setCell ⟨w.heap.size, 5, none⟩ (.slice u.a u.len u.cap)).setCell ⟨w.heap.size, 6, none⟩ (.int .i64 u.n)).setCell ⟨w.heap.size, 7, none⟩ (.int .i64 u.s)).setCell ⟨w.heap.size, 8, none⟩ (.int .i64 v2.k)).setCell ⟨w.heap.size, 9, none⟩ (.slice v2.a v2.len v2.cap)).setCell ⟨w.heap.size, 10, none⟩ (.int .i64 v2.n)).setCell ⟨w.heap.size, 11, none⟩ (.int .i64 v2.s)) := (((((((((((((Past.refl w.heap.size w12).set 0 _).set 1 _).set 2 _).set 3 _).set 4 _).set 5 _).set 6 _).set 7 _).set 8 _).set 9 _).set 10 _).set 11 _)
      generalize ((((((((((((w12.setCell ⟨w.heap.size, 0, none⟩ (.int .i64 t.k)).setCell ⟨w.heap.size, 1, none⟩ (.slice t.a t.len t.cap)).setCell ⟨w.heap.size, 2, none⟩ (.int .i64 t.n)).setCell ⟨w.heap.size, 3, none⟩ (.int .i64 t.s)).setCell ⟨w.heap.size, 4, none⟩ (.int .i64 u.k)).setCell ⟨w.heap.size, 5, none⟩ (.slice u.a u.len u.cap)).setCell ⟨w.heap.size, 6, none⟩ (.int .i64 u.n)).setCell ⟨w.heap.size, 7, none⟩ (.int .i64 u.s)).setCell ⟨w.heap.size, 8, none⟩ (.int .i64 v2.k)).setCell ⟨w.heap.size, 9, none⟩ (.slice v2.a v2.len v2.cap)).setCell ⟨w.heap.size, 10, none⟩ (.int .i64 v2.n)).setCell ⟨w.heap.size, 11, none⟩ (.int .i64 v2.s)) = wF at hF hQ ⊢
      obtain ⟨⟨y0, y1, y2, y3⟩, ⟨y4, y5, y6, y7⟩, ⟨y8, y9, ya, yb⟩⟩ := hF.cells
      refine bodyPost_ret (v := .agg #[.int .i64 t.k, .slice t.a t.len t.cap, .int .i64 t.n, .int .i64 t.s, .int .i64 u.k, .slice u.a u.len u.cap, .int .i64 u.n, .int .i64 u.s, .int .i64 v2.k, .slice v2.a v2.len v2.cap, .int .i64 v2.n, .int .i64 v2.s]) (by simp [results, Tryz.results60, go_sem, y0, y1, y2, y3, y4, y5, y6, y7, y8, y9, ya, yb]) rfl ?_
      have hPF := past_other HP2.out hQ (Nat.le_refl _)
      have hz := hQ.size
      have h1 := HDt.out.le
      have h2 := HDu.out.le
      have h3 := HD2.out.le
      exact ⟨⟨t, u, v2, _, _, _, rfl, ⟨HSt.out, HSu.out, HSv2.out⟩, (HDt.out.past hQ (.inl (by omega))).mono (by omega) (by omega) (Nat.le_refl _), (HDu.out.past hQ (.inl (by omega))).mono (by omega) (by omega) (Nat.le_refl _), (HD2.out.past hQ (.inl (by omega))).mono (by omega) (by omega) (Nat.le_refl _)⟩, hPF, HC.out.glue HCW2.out hPF (hQ.block g HCW2.out.lt (by omega))⟩

  · go_wp2_with fail
    refine (B _ 3 HCW.out (by omega) (by omega)).mono ?_
    rintro e w8 ⟨z, rfl, hz, hP8, hC8⟩
    have HX : Hid (B12 w8 w5.heap.size t u v) := HX.out.past hP8 (by omega)
    have HR : Hid (B12 w8 w.heap.size Tm0 Tm0 Tm0) := HR.out.past hP8 (by omega)
    have HP : Hid (Past g w w8) := HP.out.trans hP8
    have HCW : Hid (Cur w8 g a len cap) := hC8
    have HDu : Hid _ := HDu.out.past hP8 (.inl (by omega))
    have HDv : Hid _ := HDv.out.past hP8 (.inl (by omega))
    have hl8 : w7.heap.size ≤ w8.heap.size := hP8.size
    clear hP8 hC8 HDt
    obtain ⟨⟨x0, x1, x2, x3⟩, ⟨x4, x5, x6, x7⟩, ⟨x8, x9, xa, xb⟩⟩ := HX.out.cells
    have fx0 := HX.out.f 0 (by omega)
    have fx1 := HX.out.f 1 (by omega)
    have fx2 := HX.out.f 2 (by omega)
    have fx3 := HX.out.f 3 (by omega)
    have hXl := HX.out.lt
    obtain ⟨tb, htb⟩ : ∃ tb : Tm, tb = ⟨1, none, 0, 0, (z : Int), 0⟩ := ⟨_, rfl⟩
    have HStb : Hid (SK kS tb []) := (by rw [htb]; exact ⟨⟨Int.le_refl _, by show (0 : Int) ≤ 6; omega⟩, blank_may z (by omega), by show (1 : Int) ≤ 1; omega⟩ : SK kS tb [])
    obtain ⟨wb, hwb⟩ : ∃ wb, wb = ((((w8.setCell ⟨w5.heap.size, 0, none⟩ (.int .i64 1)).setCell ⟨w5.heap.size, 1, none⟩ (.slice none 0 0)).setCell ⟨w5.heap.size, 2, none⟩ (.int .i64 z)).setCell ⟨w5.heap.size, 3, none⟩ (.int .i64 0)) := ⟨_, rfl⟩
    have hQX : Past w5.heap.size w8 wb := by rw [hwb]; exact ((((Past.refl w5.heap.size w8).set 0 _).set 1 _).set 2 _).set 3 _
    have HXb : Hid (B12 wb w5.heap.size tb u v) := by rw [hwb, htb]; exact HX.out.setS ⟨1, none, 0, 0, (z : Int), 0⟩
    have HRb : Hid (B12 wb w.heap.size Tm0 Tm0 Tm0) := HR.out.past hQX (by omega)
    have HPb : Hid (Past g w wb) := past_other HP.out hQX (by omega)
    have HCWb : Hid (Cur wb g a len cap) := HC.out.glue HCW.out HPb.out (hQX.block g HCW.out.lt (by omega))
    have HDu : Hid _ := HDu.out.past hQX (.inr (by omega))
    have HDv : Hid _ := HDv.out.past hQX (.inr (by omega))
    have HDt : Hid (DT wb (w5.heap.size + 1) wb.heap.size tb []) := by rw [htb]; exact DT.none wb _ 1 z (by omega)
    have hlb : w8.heap.size ≤ wb.heap.size := hQX.size
    clear hQX
    go_wp2_with fail
    rw [← hwb]
    clear hwb x0 x1 x2 x3 x4 x5 x6 x7 x8 x9 xa xb fx0 fx1 fx2 fx3 hXl htb HX HR HP HCW
    have HX : Hid _ := HXb
    have HR : Hid _ := HRb
    have HP : Hid _ := HPb
    have HCW : Hid _ := HCWb
    clear HXb HRb HPb HCWb
    refine (O _ 2 HCW.out (by omega) (by omega)).mono ?_
    rintro e w9 ⟨p2, rfl, hP9, hC9⟩
    have HX : Hid (B12 w9 w5.heap.size tb u v) := HX.out.past hP9 (by omega)
    have HR : Hid (B12 w9 w.heap.size Tm0 Tm0 Tm0) := HR.out.past hP9 (by omega)
    have HP : Hid (Past g w w9) := HP.out.trans hP9
    have HCW : Hid (Cur w9 g a len cap) := hC9
    have HDt : Hid _ := HDt.out.past hP9 (.inl (by omega))
    have HDu : Hid _ := HDu.out.past hP9 (.inl (by omega))
    have HDv : Hid _ := HDv.out.past hP9 (.inl (by omega))
    have hl9 : w5.heap.size + 1 ≤ w9.heap.size := HX.out.lt
    clear hP9 hC9
    cases p2
    · obtain ⟨⟨x0, x1, x2, x3⟩, ⟨x4, x5, x6, x7⟩, ⟨x8, x9, xa, xb⟩⟩ := HX.out.cells
      obtain ⟨⟨r0, r1, r2, r3⟩, ⟨r4, r5, r6, r7⟩, ⟨r8, r9, ra, rb⟩⟩ := HR.out.cells
      have fr0 := HR.out.f 0 (by omega)
      have fr1 := HR.out.f 1 (by omega)
      have fr2 := HR.out.f 2 (by omega)
      have fr3 := HR.out.f 3 (by omega)
      have fr4 := HR.out.f 4 (by omega)
      have fr5 := HR.out.f 5 (by omega)
      have fr6 := HR.out.f 6 (by omega)
      have fr7 := HR.out.f 7 (by omega)
      have fr8 := HR.out.f 8 (by omega)
      have fr9 := HR.out.f 9 (by omega)
      have fr10 := HR.out.f 10 (by omega)
      have fr11 := HR.out.f 11 (by omega)
      have hRl := HR.out.lt
      have hXl := HX.out.lt
      go_wp2
      have hF : B12 ((((((((((((w9.setCell ⟨w.heap.size, 0, none⟩ (.int .i64 tb.k)).setCell ⟨w.heap.size, 1, none⟩ (.slice tb.a tb.len tb.cap)).setCell ⟨w.heap.size, 2, none⟩ (.int .i64 tb.n)).setCell ⟨w.heap.size, 3, none⟩ (.int .i64 tb.s)).setCell ⟨w.heap.size, 4, none⟩ (.int .i64 u.k)).setCell ⟨w.heap.size, 5, none⟩ (.slice u.a u.len u.cap)).setCell ⟨w.heap.size, 6, none⟩ (.int .i64 u.n)).setCell ⟨w.heap.size, 7, none⟩ (.int .i64 u.s)).setCell ⟨w.heap.size, 8, none⟩ (.int .i64 v.k)).setCell ⟨w.heap.size, 9, none⟩ (.slice v.a v.len v.cap)).setCell ⟨w.heap.size, 10, none⟩ (.int .i64 v.n)).setCell ⟨w.heap.size, 11, none⟩ (.int .i64 v.s)) w.heap.size tb u v := ((HR.out.setS tb).setP u).setO v
      have hQ : Past w.heap.size w9 ((((((((((((w9.setCell ⟨w.heap.size, 0, none⟩ (.int .i64 tb.k)).setCell ⟨w.heap.size, 1, none⟩ (.slice tb.a tb.len tb.cap)).setCell ⟨w.heap.size, 2, none⟩ (.int .i64 tb.n)).setCell ⟨w.heap.size, 3, none⟩ (.int .i64 tb.s)).setCell ⟨w.heap.size, 4, none⟩ (.int .i64 u.k)).setCell ⟨w.heap.size, 5, none⟩ (.slice u.a u.len u.cap)).setCell ⟨w.heap.size, 6, none⟩ (.int .i64 u.n)).setCell ⟨w.heap.size, 7, none⟩ (.int .i64 u.s)).setCell ⟨w.heap.size, 8, none⟩ (.int .i64 v.k)).setCell ⟨w.heap.size, 9, none⟩ (.slice v.a v.len v.cap)).setCell ⟨w.heap.size, 10, none⟩ (.int .i64 v.n)).setCell ⟨w.heap.size, 11, none⟩ (.int .i64 v.s)) := (((((((((((((Past.refl w.heap.size w9).set 0 _).set 1 _).set 2 _).set 3 _).set 4 _).set 5 _).set 6 _).set 7 _).set 8 _).set 9 _).set 10 _).set 11 _)
      generalize ((((((((((((w9.setCell ⟨w.heap.size, 0, none⟩ (.int .i64 tb.k)).setCell ⟨w.heap.size, 1, none⟩ (.slice tb.a tb.len tb.cap)).setCell ⟨w.heap.size, 2, none⟩ (.int .i64 tb.n)).setCell ⟨w.heap.size, 3, none⟩ (.int .i64 tb.s)).setCell ⟨w.heap.size, 4, none⟩ (.int .i64 u.k)).setCell ⟨w.heap.size, 5, none⟩ (.slice u.a u.len u.cap)).setCell ⟨w.heap.size, 6, none⟩ (.int .i64 u.n)).setCell ⟨w.heap.size, 7, none⟩ (.int .i64 u.s)).setCell ⟨w.heap.size, 8, none⟩ (.int .i64 v.k)).setCell ⟨w.heap.size, 9, none⟩ (.slice v.a v.len v.cap)).setCell ⟨w.heap.size, 10, none⟩ (.int .i64 v.n)).setCell ⟨w.heap.size, 11, none⟩ (.int .i64 v.s)) = wF at hF hQ ⊢
      obtain ⟨⟨y0, y1, y2, y3⟩, ⟨y4, y5, y6, y7⟩, ⟨y8, y9, ya, yb⟩⟩ := hF.cells
      refine bodyPost_ret (v := .agg #[.int .i64 tb.k, .slice tb.a tb.len tb.cap, .int .i64 tb.n, .int .i64 tb.s, .int .i64 u.k, .slice u.a u.len u.cap, .int .i64 u.n, .int .i64 u.s, .int .i64 v.k, .slice v.a v.len v.cap, .int .i64 v.n, .int .i64 v.s]) (by simp [results, Tryz.results60, go_sem, y0, y1, y2, y3, y4, y5, y6, y7, y8, y9, ya, yb]) rfl ?_
      have hPF := past_other HP.out hQ (Nat.le_refl _)
      have hz := hQ.size
      have h1 := HDt.out.le
      have h2 := HDu.out.le
      have h3 := HDv.out.le
      exact ⟨⟨tb, u, v, _, _, _, rfl, ⟨HStb.out, HSu.out, HSv.out⟩, (HDt.out.past hQ (.inl (by omega))).mono (by omega) (by omega) (Nat.le_refl _), (HDu.out.past hQ (.inl (by omega))).mono (by omega) (by omega) (Nat.le_refl _), (HDv.out.past hQ (.inl (by omega))).mono (by omega) (by omega) (Nat.le_refl _)⟩, hPF, HC.out.glue HCW.out hPF (hQ.block g HCW.out.lt (by omega))⟩
    · go_wp2_with fail
      refine (B _ 4 (HCW.out.below (bl_a _)) (by omega) (by omega)).mono ?_
      rintro e w10 ⟨y, rfl, hy, hP10, hC10⟩
      obtain ⟨s10, hs10, hc10⟩ := names4 w9 { data := #[97] } { data := #[98] } { data := #[99] } { data := #[100] } 9 y hy names_abcd
      have hcs : w10.cell? ⟨w9.heap.size, y, none⟩ = some (.string s10) := (hP10.cell (p := ⟨w9.heap.size, y, none⟩) (by simp) (by show w9.heap.size ≠ g; omega)).trans hc10
      have hPA : Past g w9 w10 := (Past.of_below (bl_a _)).trans hP10
      have HX : Hid (B12 w10 w5.heap.size tb u v) := HX.out.past hPA (by omega)
      have HR : Hid (B12 w10 w.heap.size Tm0 Tm0 Tm0) := HR.out.past hPA (by omega)
      have HP : Hid (Past g w w10) := HP.out.trans hPA
      have HCW : Hid (Cur w10 g a len cap) := hC10
      have HDt : Hid _ := HDt.out.past hPA (.inl (by omega))
      have HDu : Hid _ := HDu.out.past hPA (.inl (by omega))
      have hl10 : w9.heap.size ≤ w10.heap.size := hPA.size
      clear hP10 hC10 hPA hc10
      go_wp2_with fail
      refine (l1name_may s10 _ hs10.1 hs10.2).mono ?_
      rintro e w11 ⟨hT11, hb11⟩
      obtain ⟨v2, bv2, rfl, hD11, hsv2⟩ := hT11.dt
      have HSv2 : Hid (SK kO v2 bv2) := hsv2.mono fun _ _ => trivial
      clear hsv2
      have HX : Hid (B12 w11 w5.heap.size tb u v) := HX.out.below hb11
      have HR : Hid (B12 w11 w.heap.size Tm0 Tm0 Tm0) := HR.out.below hb11
      have HP : Hid (Past g w w11) := HP.out.trans (Past.of_below hb11)
      have HCW : Hid (Cur w11 g a len cap) := HCW.out.below hb11
      have HDt : Hid _ := HDt.out.below hb11
      have HDu : Hid _ := HDu.out.below hb11
      have hl11 := hb11.size
      have HD2 : Hid (DT w11 w10.heap.size w11.heap.size v2 bv2) := hD11
      clear hT11 hb11 hcs hD11
      obtain ⟨⟨x0, x1, x2, x3⟩, ⟨x4, x5, x6, x7⟩, ⟨x8, x9, xa, xb⟩⟩ := HX.out.cells
      obtain ⟨⟨r0, r1, r2, r3⟩, ⟨r4, r5, r6, r7⟩, ⟨r8, r9, ra, rb⟩⟩ := HR.out.cells
      have fr0 := HR.out.f 0 (by omega)
      have fr1 := HR.out.f 1 (by omega)
      have fr2 := HR.out.f 2 (by omega)
      have fr3 := HR.out.f 3 (by omega)
      have fr4 := HR.out.f 4 (by omega)
      have fr5 := HR.out.f 5 (by omega)
      have fr6 := HR.out.f 6 (by omega)
      have fr7 := HR.out.f 7 (by omega)
      have fr8 := HR.out.f 8 (by omega)
      have fr9 := HR.out.f 9 (by omega)
      have fr10 := HR.out.f 10 (by omega)
      have fr11 := HR.out.f 11 (by omega)
      have hRl := HR.out.lt
      have hXl := HX.out.lt
      have fx8 := HX.out.f 8 (by omega)
      have fx9 := HX.out.f 9 (by omega)
      have fxa := HX.out.f 10 (by omega)
      have fxb := HX.out.f 11 (by omega)
      obtain ⟨w12, hw12⟩ : ∃ w12, w12 = ((((w11.setCell ⟨w5.heap.size, 8, none⟩ (.int .i64 v2.k)).setCell ⟨w5.heap.size, 9, none⟩ (.slice v2.a v2.len v2.cap)).setCell ⟨w5.heap.size, 10, none⟩ (.int .i64 v2.n)).setCell ⟨w5.heap.size, 11, none⟩ (.int .i64 v2.s)) := ⟨_, rfl⟩
      have hQX : Past w5.heap.size w11 w12 := by rw [hw12]; exact ((((Past.refl w5.heap.size w11).set 8 _).set 9 _).set 10 _).set 11 _
      have HR2 : Hid (B12 w12 w.heap.size Tm0 Tm0 Tm0) := HR.out.past hQX (by omega)
      have HP2 : Hid (Past g w w12) := past_other HP.out hQX (by omega)
      have HCW2 : Hid (Cur w12 g a len cap) := HC.out.glue HCW.out HP2.out (hQX.block g HCW.out.lt (by omega))
      have HDt : Hid _ := HDt.out.past hQX (by omega)
      have HDu : Hid _ := HDu.out.past hQX (.inr (by omega))
      have HD2 : Hid _ := HD2.out.past hQX (.inl (by omega))
      clear hQX
      go_wp2
      rw [← hw12]
      have hF : B12 ((((((((((((w12.setCell ⟨w.heap.size, 0, none⟩ (.int .i64 tb.k)).setCell ⟨w.heap.size, 1, none⟩ (.slice tb.a tb.len tb.cap)).setCell ⟨w.heap.size, 2, none⟩ (.int .i64 tb.n)).setCell ⟨w.heap.size, 3, none⟩ (.int .i64 tb.s)).setCell ⟨w.heap.size, 4, none⟩ (.int .i64 u.k)).setCell ⟨w.heap.size, 5, none⟩ (.slice u.a u.len u.cap)).setCell ⟨w.heap.size, 6, none⟩ (.int .i64 u.n)).setCell ⟨w.heap.size, 7, none⟩ (.int .i64 u.s)).setCell ⟨w.heap.size, 8, none⟩ (.int .i64 v2.k)).setCell ⟨w.heap.size, 9, none⟩ (.slice v2.a v2.len v2.cap)).setCell ⟨w.heap.size, 10, none⟩ (.int .i64 v2.n)).setCell ⟨w.heap.size, 11, none⟩ (.int .i64 v2.s)) w.heap.size tb u v2 := ((HR2.out.setS tb).setP u).setO v2
      have hQ : Past w.heap.size w12 ((((((((((((w12.setCell ⟨w.heap.size, 0, none⟩ (.int .i64 tb.k)).setCell ⟨w.heap.size, 1, none⟩ (.slice tb.a tb.len tb.cap)).setCell ⟨w.heap.size, 2, none⟩ (.int .i64 tb.n)).setCell ⟨w.heap.size, 3, none⟩ (.int .i64 tb.s)).setCell ⟨w.heap.size, 4, none⟩ (.int .i64 u.k)).setCell ⟨w.heap.size, 5, none⟩ (.slice u.a u.len u.cap)).setCell ⟨w.heap.size, 6, none⟩ (.int .i64 u.n)).setCell ⟨w.heap.size, 7, none⟩ (.int .i64 u.s)).setCell ⟨w.heap.size, 8, none⟩ (.int .i64 v2.k)).setCell ⟨w.heap.size, 9, none⟩ (.slice v2.a v2.len v2.cap)).setCell ⟨w.heap.size, 10, none⟩ (.int .i64 v2.n)).setCell ⟨w.heap.size, 11, none⟩ (.int .i64 v2.s)) := (((((((((((((Past.refl w.heap.size w12).set 0 _).set 1 _).set 2 _).set 3 _).set 4 _).set 5 _).set 6 _).set 7 _).set 8 _).set 9 _).set 10 _).set 11 _)
      generalize ((((((((((((w12.setCell ⟨w.heap.size, 0, none⟩ (.int .i64 tb.k)).setCell ⟨w.heap.size, 1, none⟩ (.slice tb.a tb.len tb.cap)).setCell ⟨w.heap.size, 2, none⟩ (.int .i64 tb.n)).setCell ⟨w.heap.size, 3, none⟩ (.int .i64 tb.s)).setCell ⟨w.heap.size, 4, none⟩ (.int .i64 u.k)).setCell ⟨w.heap.size, 5, none⟩ (.slice u.a u.len u.cap)).setCell ⟨w.heap.size, 6, none⟩ (.int .i64 u.n)).setCell ⟨w.heap.size, 7, none⟩ (.int .i64 u.s)).setCell ⟨w.heap.size, 8, none⟩ (.int .i64 v2.k)).setCell ⟨w.heap.size, 9, none⟩ (.slice v2.a v2.len v2.cap)).setCell ⟨w.heap.size, 10, none⟩ (.int .i64 v2.n)).setCell ⟨w.heap.size, 11, none⟩ (.int .i64 v2.s)) = wF at hF hQ ⊢
      obtain ⟨⟨y0, y1, y2, y3⟩, ⟨y4, y5, y6, y7⟩, ⟨y8, y9, ya, yb⟩⟩ := hF.cells
      refine bodyPost_ret (v := .agg #[.int .i64 tb.k, .slice tb.a tb.len tb.cap, .int .i64 tb.n, .int .i64 tb.s, .int .i64 u.k, .slice u.a u.len u.cap, .int .i64 u.n, .int .i64 u.s, .int .i64 v2.k, .slice v2.a v2.len v2.cap, .int .i64 v2.n, .int .i64 v2.s]) (by simp [results, Tryz.results60, go_sem, y0, y1, y2, y3, y4, y5, y6, y7, y8, y9, ya, yb]) rfl ?_
      have hPF := past_other HP2.out hQ (Nat.le_refl _)
      have hz := hQ.size
      have h1 := HDt.out.le
      have h2 := HDu.out.le
      have h3 := HD2.out.le
      exact ⟨⟨tb, u, v2, _, _, _, rfl, ⟨HStb.out, HSu.out, HSv2.out⟩, (HDt.out.past hQ (.inl (by omega))).mono (by omega) (by omega) (Nat.le_refl _), (HDu.out.past hQ (.inl (by omega))).mono (by omega) (by omega) (Nat.le_refl _), (HD2.out.past hQ (.inl (by omega))).mono (by omega) (by omega) (Nat.le_refl _)⟩, hPF, HC.out.glue HCW2.out hPF (hQ.block g HCW2.out.lt (by omega))⟩
end Go.Proofs.YtiodiooaaojbhaaGreatDoor
