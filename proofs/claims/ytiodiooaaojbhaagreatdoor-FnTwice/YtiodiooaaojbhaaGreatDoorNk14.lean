/- Texts put together: GdrQ GraR ShwM RdA -/
import Derived.Test.YtiodiooaaojbhaaGreatDoorNk11
import Derived.Test.YtiodiooaaojbhaaGreatDoorNk13
import Derived.Test.YtiodiooaaojbhaaGreatDoorNk10
import Derived.Test.YtiodiooaaojbhaaGreatDoorNk08
import Derived.Test.YtiodiooaaojbhaaGreatDoorNk07
import Derived.Test.YtiodiooaaojbhaaGreatDoorNk09
/- GdrQ -/
namespace Go.Proofs.YtiodiooaaojbhaaGreatDoor
open Go.RowKit Go.Deep
set_option maxRecDepth 100000

/-- A drawn triple that may be, whose texts lie from B on. -/
structure GXK (w : World) (B : Nat) (y : G1) : Prop where
  t : DT w B w.heap.size y.t y.bt
  u : DT w B w.heap.size y.u y.bu
  v : DT w B w.heap.size y.v y.bv
  s : S3K y.t y.u y.v y.bt y.bu y.bv
theorem S3K.s3 {t u v : Tm} {bt bu bv : List Int} (h : S3K t u v bt bu bv) : S3 t u v := ⟨h.1.1, h.2.1.1, h.2.2.1⟩
theorem GXK.past {w w' : World} {B c : Nat} {y : G1} (h : GXK w B y) (hp : Past c w w') (hc : c < B) : GXK w' B y :=
  ⟨(h.t.past hp (.inl hc)).mono (Nat.le_refl _) hp.size (Nat.le_refl _), (h.u.past hp (.inl hc)).mono (Nat.le_refl _) hp.size (Nat.le_refl _), (h.v.past hp (.inl hc)).mono (Nat.le_refl _) hp.size (Nat.le_refl _), h.s⟩
theorem GXK.mono {w : World} {B B' : Nat} {y : G1} (h : GXK w B y) (hB : B' ≤ B) : GXK w B' y :=
  ⟨h.t.mono hB (Nat.le_refl _) (Nat.le_refl _), h.u.mono hB (Nat.le_refl _) (Nat.le_refl _), h.v.mono hB (Nat.le_refl _) (Nat.le_refl _), h.s⟩
theorem GXK.below {w w' : World} {B : Nat} {y : G1} (h : GXK w B y) (hb : Below w.heap.size w w') : GXK w' B y :=
  ⟨(h.t.below hb).mono (Nat.le_refl _) hb.size (Nat.le_refl _), (h.u.below hb).mono (Nat.le_refl _) hb.size (Nat.le_refl _), (h.v.below hb).mono (Nat.le_refl _) hb.size (Nat.le_refl _), h.s⟩
theorem GXK.gt {w : World} {B : Nat} {y : G1} (h : GXK w B y) : GT w y := ⟨h.t.fit, h.u.fit, h.v.fit, h.s.s3, h.t.bs, h.u.bs, h.v.bs⟩
/-- What a draw of a graph answers. -/
def GraphDrawnK (g : Nat) (a : Option Addr) (len cap : Nat) (w : World) (e : Ending) (w' : World) : Prop :=
  ∃ v l, e = .returned (.agg #[v]) ∧ OwnG w' w.heap.size v l ∧ l.length ≤ 20 ∧ (∀ y ∈ l, GXK w' w.heap.size y) ∧ Past g w w' ∧ Cur w' g a len cap

set_option maxHeartbeats 8000000 in
theorem l2graph_may (g : Nat) (a : Option Addr) (len cap : Nat) (w : World) (hlen : len ≤ 9223372036854775807) (hC : Cur w g a len cap) :
    Calls Tryz.prog 29 #[.pointer (some ⟨g, 0, none⟩)] w (GraphDrawnK g a len cap w) := by
  have BL := fun w (n : Nat) (h : Cur w g a len cap) (h1 : 1 ≤ n) (h2 : n ≤ 256) => l1Below_any g a len cap n w hlen h h1 h2
  have TR := fun w h => l2triple_may g a len cap w hlen h
  have hgl := hC.lt
  have HC : Hid (Cur w g a len cap) := hC
  clear hC
  go_enter Tryz.func29, Tryz.ntmps29
  go_wp2_with fail
  refine (BL _ 5 (HC.out.below (bl_alloc (bl_a _) _)) (by omega) (by omega)).mono ?_
  rintro e w1 ⟨p1, rfl, hp1, hP1, hC1⟩
  go_wp2_with fail
  refine (BL _ 6 hC1 (by omega) (by omega)).mono ?_
  rintro e w2 ⟨p2, rfl, hp2, hP2, hC2⟩
  have hP12 := hP1.trans hP2
  have HP2 : Hid (Past g w w2) := (Past.of_below (bl_alloc (bl_a _) _)).trans hP12
  have HC2 : Hid (Cur w2 g a len cap) := hC2
  have hl2 : w.heap.size + 1 + 1 ≤ w2.heap.size := by have := hP12.size; simpa using this
  have HX2 : Hid (w2.cell? ⟨w.heap.size + 1, 0, none⟩ = some (.slice none 0 0) ∧ w2.frozen? ⟨w.heap.size + 1, 0, none⟩ = false ∧ w.heap.size + 1 < w2.heap.size) := ⟨(hP12.cell (p := ⟨w.heap.size + 1, 0, none⟩) (by simp) (by show w.heap.size + 1 ≠ g; omega)).trans (by simp [go_sem]), (hP12.frozen (p := ⟨w.heap.size + 1, 0, none⟩) (by simp) (by show w.heap.size + 1 ≠ g; omega)).trans (by simp [go_sem]), by omega⟩
  have HR2 : Hid (w2.cell? ⟨w.heap.size, 0, none⟩ = some (.slice none 0 0) ∧ w2.frozen? ⟨w.heap.size, 0, none⟩ = false) := ⟨(hP12.cell (p := ⟨w.heap.size, 0, none⟩) (by simp; omega) (by show w.heap.size ≠ g; omega)).trans (by simp [go_sem]), (hP12.frozen (p := ⟨w.heap.size, 0, none⟩) (by simp; omega) (by show w.heap.size ≠ g; omega)).trans (by simp [go_sem])⟩
  have hmul : p1 * p2 ≤ 20 := Nat.le_trans (Nat.mul_le_mul (show p1 ≤ 4 by omega) (show p2 ≤ 5 by omega)) (by omega)
  obtain ⟨n, hn⟩ : ∃ n : Nat, n = p1 * p2 := ⟨_, rfl⟩
  have hnz : (p1 : Int) * (p2 : Int) = (n : Int) := by rw [hn]; simp
  rw [← hn] at hmul
  clear hP1 hC1 hP2 hC2 hP12 BL hn
  go_wp2_with fail
  have HG2 : Hid (∀ y ∈ ([] : List G1), GXK w2 (w.heap.size + 1 + 1) y) := fun y hy => absurd hy (by simp)
  go_loopw [5] (fun iv wr => ∃ (i : Nat) (av : Option Addr) (cv : Nat) (l : List G1), i ≤ n ∧ iv = .int .i64 i ∧ Hid (OwnG wr (w.heap.size + 1 + 1) (.slice av l.length cv) l) ∧ l.length ≤ i ∧ Hid (∀ y ∈ l, GXK wr (w.heap.size + 1 + 1) y) ∧ Hid (wr.cell? ⟨w.heap.size + 1, 0, none⟩ = some (.slice av l.length cv) ∧ wr.frozen? ⟨w.heap.size + 1, 0, none⟩ = false ∧ w.heap.size + 1 < wr.heap.size) ∧ Hid (wr.cell? ⟨w.heap.size, 0, none⟩ = some (.slice none 0 0) ∧ wr.frozen? ⟨w.heap.size, 0, none⟩ = false) ∧ Hid (Past g w wr) ∧ Hid (Cur wr g a len cap)) (fun iv _ => n - (intOf iv).toNat)
  case atStart => exact ⟨0, none, 0, [], Nat.zero_le _, rfl, OwnG.nil _ _, Nat.le_refl _, HG2, HX2, HR2, HP2, HC2⟩
  case round =>
    obtain ⟨i, av, cv, l, hi, rfl, HO, hL, HG, HX, HR, HP, HCr⟩ := hrel
    clear HX2 HR2 HP2 HC2 HG2
    by_cases hlt : i < n
    · have hltz : (i : Int) < (n : Int) := by omega
      have hxl := HX.out.2.2
      have hszp := HP.out.size
      have e3 : wr.drew.heap.size = wr.heap.size := rfl
      have hsz : w.heap.size + 1 + 1 ≤ wr.drew.heap.size := by omega
      have d0 : wr.drew.cell? ⟨w.heap.size + 1, 0, none⟩ = some (.slice av l.length cv) := HX.out.1
      have HCd : Hid (Cur wr.drew g a len cap) := HCr.out.below (Below.drew (Below.refl _ _))
      have PUT : Hid (∀ w7 (x : G1), Past g wr.drew w7 → GXK w7 (w.heap.size + 1 + 1) x → Calls Tryz.prog 59 #[.slice av l.length cv, .agg (e12 x.t x.u x.v).toArray] w7 (PutG w7 (w.heap.size + 1 + 1) l x)) := fun w7 x hp hx => by
        have hp' : Past g wr w7 := (Past.of_below (Below.drew (Below.refl _ _))).trans hp
        exact l2put_any av cv l x w7 (w.heap.size + 1 + 1) (by omega) (HO.out.past hp' (by omega)) (Nat.le_trans hsz hp.size) (fun y hy => ((HG.out y hy).past hp' (by omega)).gt) hx.gt
      go_wp2_with fail
      refine wp_region_held_drew (S := fun w' => Kept (w.heap.size + 1) (some g) wr w') (by kernel_rfl) ?_ (fun hHeld => ?_)
      · exact Kept.drew0 _ _ _
      refine take_at (i := 0) 16 (v := ?v1) rfl rfl (by kernel_rfl) (by kernel_rfl) (by kernel_rfl) (fun _ _ _ h => h) (Or.inl ⟨by rfl, ?y1⟩) hHeld ?r1
      case y1 => (intro w' hSw; skip; go_simp; (try with_reducible rfl))
      try simp only [Act.put, List.setIfInBounds_toArray, List.set_cons_zero, List.set_cons_succ]
      refine take_at (i := 2) 18 (v := ?v2) rfl rfl (by kernel_rfl) (by kernel_rfl) (by kernel_rfl) (fun _ _ _ h => h) (Or.inl ⟨by rfl, ?y2⟩) hHeld ?r2
      case y2 => (intro w' hSw; skip; go_simp; (try with_reducible rfl))
      try simp only [Act.put, List.setIfInBounds_toArray, List.set_cons_zero, List.set_cons_succ]
      refine wpAnyH_ready (rs := [1, 3]) (by kernel_rfl) (by simp) ?_
      refine AllReadyH.cons rfl (fun K hK => ?_) (AllReadyH.cons rfl (fun K hK => ?_) AllReadyH.nil)
      · go_simp
        refine hK.out _ _ ?_ (fun hHeld => ?_)
        · exact Kept.drew0 _ _ _
        clear hK K
        try simp only [Act.put, List.setIfInBounds_toArray, List.set_cons_zero, List.set_cons_succ]
        refine wpAnyH_ready (rs := [3]) (by kernel_rfl) (by simp) ?_
        refine AllReadyH.cons rfl (fun K hK => ?_) AllReadyH.nil
        go_simp
        refine (TR _ HCd.out).mono ?_
        rintro e w7 ⟨⟨t, u, v7, bt, bu, bv, rfl, hS7, hD1, hD2, hD3⟩, hP7, hC7⟩
        have HP7 : Hid (Past g wr.drew w7) := hP7
        have HC7 : Hid (Cur w7 g a len cap) := hC7
        have HG7 : Hid (GXK w7 (w.heap.size + 1 + 1) ⟨t, u, v7, bt, bu, bv⟩) := ⟨hD1.mono hsz (Nat.le_refl _) (Nat.le_refl _), hD2.mono hsz (Nat.le_refl _) (Nat.le_refl _), hD3.mono hsz (Nat.le_refl _) (Nat.le_refl _), hS7⟩
        have HK7 : Hid (Kept (w.heap.size + 1) (some g) wr w7) := kept_past HP7.out
        clear hS7 hD1 hD2 hD3 hP7 hC7
        have q0 : w7.cell? ⟨w.heap.size + 1, 0, none⟩ = some (.slice av l.length cv) := (HP7.out.cell (p := ⟨w.heap.size + 1, 0, none⟩) (by show w.heap.size + 1 < _; omega) (by show w.heap.size + 1 ≠ g; omega)).trans d0
        simp only [e12]
        go_wp2_with fail
        refine hK.out _ _ ?_ (fun hHeld => ?_)
        · exact HK7.out
        clear hK K
        try simp only [Act.put, List.setIfInBounds_toArray, List.set_cons_zero, List.set_cons_succ]
        refine wpAnyH_ready (rs := [4]) (by kernel_rfl) (by simp) ?_
        refine AllReadyH.cons rfl (fun K hK => ?_) AllReadyH.nil
        go_simp
        have hPUT := PUT.out w7 ⟨t, u, v7, bt, bu, bv⟩ HP7.out HG7.out
        simp only [e12] at hPUT
        refine hPUT.mono ?_
        rintro e w8 ⟨v8, l8, rfl, hO8, hl8, hm8, hb8⟩
        have HB8 : Hid (Below w7.heap.size w7 w8) := hb8
        have HO8 : Hid (OwnG w8 (w.heap.size + 1 + 1) v8 l8) := hO8
        have HM8 : Hid (∀ y ∈ l8, y ∈ l ∨ y = ⟨t, u, v7, bt, bu, bv⟩) := hm8
        have HL8 : Hid (l8.length ≤ l.length + 1) := hl8
        have hone : v8.oneCell' = true := hO8.one
        have q1 : w8.cell? ⟨w.heap.size + 1, 0, none⟩ = some (.slice av l.length cv) := (HB8.out.cell (p := ⟨w.heap.size + 1, 0, none⟩) (by show w.heap.size + 1 < _; have := HP7.out.size; have h2 : wr.drew.heap.size = wr.heap.size := rfl; omega)).trans q0
        have hPwr : Past g wr w8 := ((Past.of_below (Below.drew (Below.refl _ _))).trans HP7.out).trans (Past.of_below HB8.out)
        have q2 : w8.frozen? ⟨w.heap.size + 1, 0, none⟩ = false := (hPwr.frozen (p := ⟨w.heap.size + 1, 0, none⟩) (by show w.heap.size + 1 < _; omega) (by show w.heap.size + 1 ≠ g; omega)).trans HX.out.2.1
        clear hO8 hm8 hb8 hl8 hPUT
        obtain ⟨a8, n8, c8, rfl⟩ := HO8.out.slice
        obtain rfl := HO8.out.len
        go_wp2_with fail
        refine hK.out _ _ ?_ (fun hHeld => ?_)
        · exact HK7.out.below HB8.out
        clear hK K
        try simp only [Act.put, List.setIfInBounds_toArray, List.set_cons_zero, List.set_cons_succ]
        refine take_at (i := 5) 21 (v := ?v3) rfl rfl (by kernel_rfl) (by kernel_rfl) (by kernel_rfl) (fun _ _ _ h => h) (Or.inl ⟨by rfl, ?y3⟩) hHeld ?r3
        case y3 => (intro w' hSw; skip; go_simp; (try with_reducible rfl))
        try simp only [Act.put, List.setIfInBounds_toArray, List.set_cons_zero, List.set_cons_succ]
        refine wpAnyH_ready (rs := [6]) (by kernel_rfl) (by simp) ?_
        refine AllReadyH.cons rfl (fun K hK => ?_) AllReadyH.nil
        go_simp
        refine hK.out _ _ ?_ (fun hHeld => ?_)
        · exact (HK7.out.below HB8.out).set 0 _
        clear hK K
        try simp only [Act.put, List.setIfInBounds_toArray, List.set_cons_zero, List.set_cons_succ]
        refine wpAnyH_done (by kernel_rfl) ?_ _
        clear hHeld
        have hQ : Past (w.heap.size + 1) w8 (w8.setCell ⟨w.heap.size + 1, 0, none⟩ (.slice a8 l8.length c8)) := (Past.refl (w.heap.size + 1) w8).set 0 _
        have HO9 : Hid (OwnG (w8.setCell ⟨w.heap.size + 1, 0, none⟩ (.slice a8 l8.length c8)) (w.heap.size + 1 + 1) (.slice a8 l8.length c8) l8) := HO8.out.past hQ (by omega)
        have HP9 : Hid (Past g w (w8.setCell ⟨w.heap.size + 1, 0, none⟩ (.slice a8 l8.length c8))) := past_other (HP.out.trans hPwr) hQ (by omega)
        have HC9 : Hid (Cur (w8.setCell ⟨w.heap.size + 1, 0, none⟩ (.slice a8 l8.length c8)) g a len cap) := HC.out.glue (HC7.out.below HB8.out) HP9.out (hQ.block g (HC7.out.below HB8.out).lt (by omega))
        have HG9 : Hid (∀ y ∈ l8, GXK (w8.setCell ⟨w.heap.size + 1, 0, none⟩ (.slice a8 l8.length c8)) (w.heap.size + 1 + 1) y) := fun y hy => by
          rcases HM8.out y hy with h | h
          · exact ((HG.out y h).past hPwr (by omega)).past hQ (by omega)
          · rw [h]; exact (HG7.out.below HB8.out).past hQ (by omega)
        have HX9 : Hid ((w8.setCell ⟨w.heap.size + 1, 0, none⟩ (.slice a8 l8.length c8)).cell? ⟨w.heap.size + 1, 0, none⟩ = some (.slice a8 l8.length c8) ∧ (w8.setCell ⟨w.heap.size + 1, 0, none⟩ (.slice a8 l8.length c8)).frozen? ⟨w.heap.size + 1, 0, none⟩ = false ∧ w.heap.size + 1 < (w8.setCell ⟨w.heap.size + 1, 0, none⟩ (.slice a8 l8.length c8)).heap.size) := ⟨set_same q1, by rw [World.frozen?_setCell]; exact q2, by simp; have h1 := HP7.out.size; have h2 := HB8.out.size; have h3 : wr.drew.heap.size = wr.heap.size := rfl; omega⟩
        have HR9 : Hid ((w8.setCell ⟨w.heap.size + 1, 0, none⟩ (.slice a8 l8.length c8)).cell? ⟨w.heap.size, 0, none⟩ = some (.slice none 0 0) ∧ (w8.setCell ⟨w.heap.size + 1, 0, none⟩ (.slice a8 l8.length c8)).frozen? ⟨w.heap.size, 0, none⟩ = false) := ⟨(hQ.cell (p := ⟨w.heap.size, 0, none⟩) (by show w.heap.size < _; have h1 := hPwr.size; omega) (by show w.heap.size ≠ w.heap.size + 1; omega)).trans ((hPwr.cell (p := ⟨w.heap.size, 0, none⟩) (by show w.heap.size < _; omega) (by show w.heap.size ≠ g; omega)).trans HR.out.1), (hQ.frozen (p := ⟨w.heap.size, 0, none⟩) (by show w.heap.size < _; have h1 := hPwr.size; omega) (by show w.heap.size ≠ w.heap.size + 1; omega)).trans ((hPwr.frozen (p := ⟨w.heap.size, 0, none⟩) (by show w.heap.size < _; omega) (by show w.heap.size ≠ g; omega)).trans HR.out.2)⟩
        generalize (w8.setCell ⟨w.heap.size + 1, 0, none⟩ (.slice a8 l8.length c8)) = w9 at *
        go_wp2_with fail
        go_roundw
        case rel => exact ⟨i + 1, a8, c8, l8, by omega, by go_num, HO9, (show l8.length ≤ i + 1 by have h1 := HL8.out; omega), HG9, HX9, HR9, HP9, HC9⟩
        case measure => simp [intOf]; omega
      · go_simp
        refine (TR _ HCd.out).mono ?_
        rintro e w7 ⟨⟨t, u, v7, bt, bu, bv, rfl, hS7, hD1, hD2, hD3⟩, hP7, hC7⟩
        have HP7 : Hid (Past g wr.drew w7) := hP7
        have HC7 : Hid (Cur w7 g a len cap) := hC7
        have HG7 : Hid (GXK w7 (w.heap.size + 1 + 1) ⟨t, u, v7, bt, bu, bv⟩) := ⟨hD1.mono hsz (Nat.le_refl _) (Nat.le_refl _), hD2.mono hsz (Nat.le_refl _) (Nat.le_refl _), hD3.mono hsz (Nat.le_refl _) (Nat.le_refl _), hS7⟩
        have HK7 : Hid (Kept (w.heap.size + 1) (some g) wr w7) := kept_past HP7.out
        clear hS7 hD1 hD2 hD3 hP7 hC7
        have q0 : w7.cell? ⟨w.heap.size + 1, 0, none⟩ = some (.slice av l.length cv) := (HP7.out.cell (p := ⟨w.heap.size + 1, 0, none⟩) (by show w.heap.size + 1 < _; omega) (by show w.heap.size + 1 ≠ g; omega)).trans d0
        simp only [e12]
        go_wp2_with fail
        refine hK.out _ _ ?_ (fun hHeld => ?_)
        · exact HK7.out
        clear hK K
        try simp only [Act.put, List.setIfInBounds_toArray, List.set_cons_zero, List.set_cons_succ]
        refine wpAnyH_ready (rs := [1]) (by kernel_rfl) (by simp) ?_
        refine AllReadyH.cons rfl (fun K hK => ?_) AllReadyH.nil
        go_simp
        refine hK.out _ _ ?_ (fun hHeld => ?_)
        · exact HK7.out
        clear hK K
        try simp only [Act.put, List.setIfInBounds_toArray, List.set_cons_zero, List.set_cons_succ]
        refine wpAnyH_ready (rs := [4]) (by kernel_rfl) (by simp) ?_
        refine AllReadyH.cons rfl (fun K hK => ?_) AllReadyH.nil
        go_simp
        have hPUT := PUT.out w7 ⟨t, u, v7, bt, bu, bv⟩ HP7.out HG7.out
        simp only [e12] at hPUT
        refine hPUT.mono ?_
        rintro e w8 ⟨v8, l8, rfl, hO8, hl8, hm8, hb8⟩
        have HB8 : Hid (Below w7.heap.size w7 w8) := hb8
        have HO8 : Hid (OwnG w8 (w.heap.size + 1 + 1) v8 l8) := hO8
        have HM8 : Hid (∀ y ∈ l8, y ∈ l ∨ y = ⟨t, u, v7, bt, bu, bv⟩) := hm8
        have HL8 : Hid (l8.length ≤ l.length + 1) := hl8
        have hone : v8.oneCell' = true := hO8.one
        have q1 : w8.cell? ⟨w.heap.size + 1, 0, none⟩ = some (.slice av l.length cv) := (HB8.out.cell (p := ⟨w.heap.size + 1, 0, none⟩) (by show w.heap.size + 1 < _; have := HP7.out.size; have h2 : wr.drew.heap.size = wr.heap.size := rfl; omega)).trans q0
        have hPwr : Past g wr w8 := ((Past.of_below (Below.drew (Below.refl _ _))).trans HP7.out).trans (Past.of_below HB8.out)
        have q2 : w8.frozen? ⟨w.heap.size + 1, 0, none⟩ = false := (hPwr.frozen (p := ⟨w.heap.size + 1, 0, none⟩) (by show w.heap.size + 1 < _; omega) (by show w.heap.size + 1 ≠ g; omega)).trans HX.out.2.1
        clear hO8 hm8 hb8 hl8 hPUT
        obtain ⟨a8, n8, c8, rfl⟩ := HO8.out.slice
        obtain rfl := HO8.out.len
        go_wp2_with fail
        refine hK.out _ _ ?_ (fun hHeld => ?_)
        · exact HK7.out.below HB8.out
        clear hK K
        try simp only [Act.put, List.setIfInBounds_toArray, List.set_cons_zero, List.set_cons_succ]
        refine take_at (i := 5) 21 (v := ?v4) rfl rfl (by kernel_rfl) (by kernel_rfl) (by kernel_rfl) (fun _ _ _ h => h) (Or.inl ⟨by rfl, ?y4⟩) hHeld ?r4
        case y4 => (intro w' hSw; skip; go_simp; (try with_reducible rfl))
        try simp only [Act.put, List.setIfInBounds_toArray, List.set_cons_zero, List.set_cons_succ]
        refine wpAnyH_ready (rs := [6]) (by kernel_rfl) (by simp) ?_
        refine AllReadyH.cons rfl (fun K hK => ?_) AllReadyH.nil
        go_simp
        refine hK.out _ _ ?_ (fun hHeld => ?_)
        · exact (HK7.out.below HB8.out).set 0 _
        clear hK K
        try simp only [Act.put, List.setIfInBounds_toArray, List.set_cons_zero, List.set_cons_succ]
        refine wpAnyH_done (by kernel_rfl) ?_ _
        clear hHeld
        have hQ : Past (w.heap.size + 1) w8 (w8.setCell ⟨w.heap.size + 1, 0, none⟩ (.slice a8 l8.length c8)) := (Past.refl (w.heap.size + 1) w8).set 0 _
        have HO9 : Hid (OwnG (w8.setCell ⟨w.heap.size + 1, 0, none⟩ (.slice a8 l8.length c8)) (w.heap.size + 1 + 1) (.slice a8 l8.length c8) l8) := HO8.out.past hQ (by omega)
        have HP9 : Hid (Past g w (w8.setCell ⟨w.heap.size + 1, 0, none⟩ (.slice a8 l8.length c8))) := past_other (HP.out.trans hPwr) hQ (by omega)
        have HC9 : Hid (Cur (w8.setCell ⟨w.heap.size + 1, 0, none⟩ (.slice a8 l8.length c8)) g a len cap) := HC.out.glue (HC7.out.below HB8.out) HP9.out (hQ.block g (HC7.out.below HB8.out).lt (by omega))
        have HG9 : Hid (∀ y ∈ l8, GXK (w8.setCell ⟨w.heap.size + 1, 0, none⟩ (.slice a8 l8.length c8)) (w.heap.size + 1 + 1) y) := fun y hy => by
          rcases HM8.out y hy with h | h
          · exact ((HG.out y h).past hPwr (by omega)).past hQ (by omega)
          · rw [h]; exact (HG7.out.below HB8.out).past hQ (by omega)
        have HX9 : Hid ((w8.setCell ⟨w.heap.size + 1, 0, none⟩ (.slice a8 l8.length c8)).cell? ⟨w.heap.size + 1, 0, none⟩ = some (.slice a8 l8.length c8) ∧ (w8.setCell ⟨w.heap.size + 1, 0, none⟩ (.slice a8 l8.length c8)).frozen? ⟨w.heap.size + 1, 0, none⟩ = false ∧ w.heap.size + 1 < (w8.setCell ⟨w.heap.size + 1, 0, none⟩ (.slice a8 l8.length c8)).heap.size) := ⟨set_same q1, by rw [World.frozen?_setCell]; exact q2, by simp; have h1 := HP7.out.size; have h2 := HB8.out.size; have h3 : wr.drew.heap.size = wr.heap.size := rfl; omega⟩
        have HR9 : Hid ((w8.setCell ⟨w.heap.size + 1, 0, none⟩ (.slice a8 l8.length c8)).cell? ⟨w.heap.size, 0, none⟩ = some (.slice none 0 0) ∧ (w8.setCell ⟨w.heap.size + 1, 0, none⟩ (.slice a8 l8.length c8)).frozen? ⟨w.heap.size, 0, none⟩ = false) := ⟨(hQ.cell (p := ⟨w.heap.size, 0, none⟩) (by show w.heap.size < _; have h1 := hPwr.size; omega) (by show w.heap.size ≠ w.heap.size + 1; omega)).trans ((hPwr.cell (p := ⟨w.heap.size, 0, none⟩) (by show w.heap.size < _; omega) (by show w.heap.size ≠ g; omega)).trans HR.out.1), (hQ.frozen (p := ⟨w.heap.size, 0, none⟩) (by show w.heap.size < _; have h1 := hPwr.size; omega) (by show w.heap.size ≠ w.heap.size + 1; omega)).trans ((hPwr.frozen (p := ⟨w.heap.size, 0, none⟩) (by show w.heap.size < _; omega) (by show w.heap.size ≠ g; omega)).trans HR.out.2)⟩
        generalize (w8.setCell ⟨w.heap.size + 1, 0, none⟩ (.slice a8 l8.length c8)) = w9 at *
        go_wp2_with fail
        go_roundw
        case rel => exact ⟨i + 1, a8, c8, l8, by omega, by go_num, HO9, (show l8.length ≤ i + 1 by have h1 := HL8.out; omega), HG9, HX9, HR9, HP9, HC9⟩
        case measure => simp [intOf]; omega
    · have heq : i = n := by omega
      subst heq
      have x0 := HX.out.1
      have x1 := HR.out.1
      have x2 := HR.out.2
      go_wp2_with fail
      have hy := HX.out.2.2
      have y0 := set_same x1 (v := .slice av l.length cv)
      refine bodyPost_ret (v := .agg #[.slice av l.length cv]) (by simp [results, Tryz.results29, go_sem, y0]) rfl ?_
      have hQ : Past w.heap.size wr (wr.setCell ⟨w.heap.size, 0, none⟩ (.slice av l.length cv)) := (Past.refl w.heap.size wr).set 0 _
      exact ⟨_, l, rfl, (HO.out.past hQ (by omega)).base (by omega), by omega, fun y hy => ((HG.out y hy).past hQ (by omega)).mono (by omega), past_other HP.out hQ (by omega), HC.out.glue HCr.out (past_other HP.out hQ (by omega)) (hQ.block g HCr.out.lt (by omega))⟩
end Go.Proofs.YtiodiooaaojbhaaGreatDoor

/- GraR -/
namespace Go.Proofs.YtiodiooaaojbhaaGreatDoor
open Go.RowKit Go.Deep
set_option maxRecDepth 100000

def G10 : G1 := ⟨Tm0, Tm0, Tm0, [], [], []⟩
def gA (r : List G1) (i : Nat) : G1 := r[i]?.getD G10
theorem gA_at {r : List G1} {i : Nat} (h : i < r.length) : gA r i = r[i] := by
  unfold gA
  rw [List.getElem?_eq_getElem h]
  rfl
theorem rows_gA {w : World} {B : Nat} {a : Option Addr} {cap : Nat} {r : List G1} (h : OwnG w B (.slice a r.length cap) r) : Rows w a r.length (fun i => (gA r i).t) (fun i => (gA r i).u) (fun i => (gA r i).v) := by
  rcases h.form with ⟨e, h0⟩ | ⟨g, c', e, _, hlt, _, h3⟩
  · subst h0
    exact .inl rfl
  · simp only [Value.slice.injEq] at e
    refine .inr ⟨g, 0, e.1, hlt, fun i hi => ?_⟩
    have hc := flatG_cells (l := r) (w := w) (g := g) (off := 0) (fun j u hu => by rw [Nat.zero_add]; exact h3 j u hu) (List.getElem?_eq_getElem hi)
    simp only [gA_at hi]
    exact ⟨⟨hc 0 _ rfl, hc 1 _ rfl, hc 2 _ rfl, hc 3 _ rfl⟩, ⟨hc 4 _ rfl, hc 5 _ rfl, hc 6 _ rfl, hc 7 _ rfl⟩, ⟨hc 8 _ rfl, hc 9 _ rfl, hc 10 _ rfl, hc 11 _ rfl⟩⟩
end Go.Proofs.YtiodiooaaojbhaaGreatDoor

/- ShwM -/
namespace Go.Proofs.YtiodiooaaojbhaaGreatDoor
open Go.RowKit Go.Deep
set_option maxRecDepth 100000

/-- What digits are worth. -/
def valL (l : List Int) : Nat := l.foldl (fun a d => a * 10 + (d - 48).toNat) 0
theorem valL_snoc (l : List Int) (d : Int) : valL (l ++ [d]) = valL l * 10 + (d - 48).toNat := by simp [valL]
theorem valL_digits (n : Nat) : valL (digitsL n) = n := by
  induction n using Nat.strongRecOn with
  | ind n ih =>
    by_cases h : n < 10
    · rw [digitsL_small h]
      simp [valL]
      omega
    · rw [digitsL_step h, valL_snoc, ih (n / 10) (by omega)]
      omega
theorem valL_zeros (m : Nat) (l : List Int) : valL (List.replicate m 48 ++ l) = valL l := by
  induction m with
  | zero => simp
  | succ m ih =>
    rw [List.replicate_succ, List.cons_append]
    simp only [valL, List.foldl_cons] at ih ⊢
    simpa using ih
theorem digitsL_mem (n : Nat) : ∀ d ∈ digitsL n, 48 ≤ d ∧ d ≤ 57 := by
  induction n using Nat.strongRecOn with
  | ind n ih =>
    intro d hd
    by_cases h : n < 10
    · rw [digitsL_small h] at hd
      simp only [List.mem_cons, List.not_mem_nil, or_false] at hd
      omega
    · rw [digitsL_step h, List.mem_append] at hd
      rcases hd with hd | hd
      · exact ih (n / 10) (by omega) d hd
      · simp only [List.mem_cons, List.not_mem_nil, or_false] at hd
        omega
theorem dig_no (n : Nat) : (46 : Int) ∉ digitsL n := fun h => by have := digitsL_mem n 46 h; omega

theorem p10_pow (s : Nat) : p10 s = ((10 ^ s : Nat) : Int) := by
  induction s with
  | zero => rfl
  | succ s ih =>
    show p10 s * 10 = _
    rw [ih, Nat.pow_succ]
    push_cast
    rfl
theorem frac_len (n : Int) (s : Nat) (hs : 1 ≤ s) : (List.replicate (s - (digitsL (n % p10 s).toNat).length) (48 : Int) ++ digitsL (n % p10 s).toNat).length = s := by
  have hp : 0 < p10 s := by
    rw [p10_pow]
    exact_mod_cast Nat.pow_pos (by omega)
  have h1 := Int.emod_nonneg n (by omega : p10 s ≠ 0)
  have h2 := Int.emod_lt_of_pos n hp
  have hlt : (n % p10 s).toNat < 10 ^ (s - 1 + 1) := by
    rw [show s - 1 + 1 = s by omega]
    rw [p10_pow] at h1 h2 ⊢
    omega
  have := digitsL_len (s - 1) _ hlt
  rw [List.length_append, List.length_replicate]
  omega
theorem num_head (n : Int) (s : Nat) : ∃ d r, numL n s = d :: r ∧ 48 ≤ d ∧ d ≤ 57 := by
  unfold numL
  have h1 := digitsL_mem (n / p10 s).toNat
  cases hd : digitsL (n / p10 s).toNat with
  | nil =>
    have := digitsL_pos (n / p10 s).toNat
    rw [hd] at this
    simp at this
  | cons d r =>
    rw [hd] at h1
    exact ⟨d, _, rfl, h1 d (List.mem_cons_self ..)⟩
end Go.Proofs.YtiodiooaaojbhaaGreatDoor

/- RdA -/
namespace Go.Proofs.YtiodiooaaojbhaaGreatDoor
open Go.RowKit Go.Deep
set_option maxRecDepth 100000

def great (b : Int) : Bool := decide (65 ≤ b) && decide (b ≤ 90)
def gapB (b : Int) : Bool := b == 32 || b == 10
def ofPiece (b : Int) : Bool := letter b || great b || digit b
def digitHd : List Int → Bool
  | [] => false
  | d :: _ => digit d
/-- How long the piece is that begins here. -/
def pieceLen : List Int → Nat
  | [] => 0
  | b :: r => if (ofPiece b || (b == 46 && digitHd r)) = true then pieceLen r + 1 else 0
/-- How many great letters stand here. -/
def greatLen : List Int → Nat
  | [] => 0
  | b :: r => if great b = true then greatLen r + 1 else 0
theorem pieceLen_le : ∀ l : List Int, pieceLen l ≤ l.length
  | [] => Nat.le_refl _
  | b :: r => by
    unfold pieceLen
    have := pieceLen_le r
    split <;> simp <;> omega
theorem greatLen_le : ∀ l : List Int, greatLen l ≤ l.length
  | [] => Nat.le_refl _
  | b :: r => by
    unfold greatLen
    have := greatLen_le r
    split <;> simp <;> omega

/-- What lies ahead of the first point, and behind it. -/
def cutDot : List Int → List Int × List Int
  | [] => ([], [])
  | b :: r => if b = 46 then ([], r) else (b :: (cutDot r).1, (cutDot r).2)
theorem cutDot_at {a : List Int} (f : List Int) (ha : (46 : Int) ∉ a) : cutDot (a ++ 46 :: f) = (a, f) := by
  induction a with
  | nil => simp [cutDot]
  | cons x a ih =>
    have h1 : x ≠ 46 := fun e => ha (by rw [e]; exact List.mem_cons_self ..)
    have h2 := ih (fun h => ha (List.mem_cons_of_mem _ h))
    simp [cutDot, h1, h2]
theorem cutDot_none {a : List Int} (ha : (46 : Int) ∉ a) : cutDot a = (a, []) := by
  induction a with
  | nil => rfl
  | cons x a ih =>
    have h1 : x ≠ 46 := fun e => ha (by rw [e]; exact List.mem_cons_self ..)
    have h2 := ih (fun h => ha (List.mem_cons_of_mem _ h))
    simp [cutDot, h1, h2]
theorem valL_from (l : List Int) : ∀ a : Nat, l.foldl (fun a d => a * 10 + (d - 48).toNat) a = a * 10 ^ l.length + valL l := by
  unfold valL
  induction l with
  | nil => intro a; simp
  | cons x l ih =>
    intro a
    rw [List.foldl_cons, ih, List.foldl_cons, ih (0 * 10 + (x - 48).toNat), List.length_cons, Nat.pow_succ, Nat.add_mul, Nat.mul_assoc, Nat.mul_comm 10 (10 ^ l.length), Nat.zero_mul, Nat.zero_add]
    omega
theorem valL_append (a f : List Int) : valL (a ++ f) = valL a * 10 ^ f.length + valL f := by
  rw [show valL (a ++ f) = f.foldl (fun a d => a * 10 + (d - 48).toNat) (valL a) by unfold valL; rw [List.foldl_append], valL_from]
/-- A number's candidate. -/
def candB (l : List Int) : Int × Int := ((valL ((cutDot l).1 ++ (cutDot l).2) : Nat), ((cutDot l).2.length : Nat))
def candN : List Int → Int × Int
  | [] => (0, 0)
  | b :: r => if b = 45 then (-(candB r).1, (candB r).2) else candB (b :: r)
theorem numL_cut (m : Int) (k : Nat) : cutDot (numL m k) = (digitsL (m / p10 k).toNat, if k = 0 then [] else List.replicate (k - (digitsL (m % p10 k).toNat).length) 48 ++ digitsL (m % p10 k).toNat) := by
  unfold numL
  by_cases hk : k = 0
  · rw [if_pos hk, if_pos hk, List.append_nil, cutDot_none (dig_no _)]
  · rw [if_neg hk, if_neg hk, cutDot_at _ (dig_no _)]
theorem candB_num (m : Int) (k : Nat) (h0 : 0 ≤ m) : candB (numL m k) = (m, (k : Int)) := by
  unfold candB
  rw [numL_cut]
  have hp : 0 < p10 k := by
    rw [p10_pow]
    exact_mod_cast Nat.pow_pos (by omega)
  have b1 := Int.ediv_nonneg h0 (Int.le_of_lt hp)
  by_cases hk : k = 0
  · subst hk
    simp only [if_true, List.append_nil, List.length_nil]
    rw [valL_digits, show p10 0 = 1 from rfl, Int.ediv_one]
    simp
    omega
  · simp only [if_neg hk]
    rw [valL_append, frac_len m k (by omega), valL_zeros, valL_digits, valL_digits]
    have a1 := Int.emod_nonneg m (by omega : p10 k ≠ 0)
    have c1 := Int.mul_ediv_add_emod m (p10 k)
    refine Prod.ext ?_ rfl
    simp only
    push_cast
    rw [Int.toNat_of_nonneg b1, Int.toNat_of_nonneg a1]
    rw [p10_pow] at c1 ⊢
    push_cast at c1 ⊢
    rw [Int.mul_comm]
    exact c1
theorem candN_show {n s : Int} (hs : 0 ≤ s) : candN (showL 3 n s []) = (n, s) := by
  by_cases hn : n < 0
  · have e : showL 3 n s [] = 45 :: numL (-n) s.toNat := by simp [showL, hn]
    rw [e]
    simp only [candN, if_true]
    rw [candB_num _ _ (by omega)]
    refine Prod.ext ?_ ?_ <;> simp <;> omega
  · have e : showL 3 n s [] = numL n s.toNat := by simp [showL, hn]
    obtain ⟨d, r, e2, hd⟩ := num_head n s.toNat
    rw [e, e2]
    simp only [candN]
    rw [if_neg (by omega), ← e2, candB_num _ _ (by omega)]
    refine Prod.ext rfl ?_
    simp
    omega
/-- The number that is written so. -/
def numOf (raw : List Int) : Option (Int × Int) := if numOk (candN raw).1 (candN raw).2 = true ∧ showL 3 (candN raw).1 (candN raw).2 [] = raw then some (candN raw) else none
theorem numOf_some {raw : List Int} {n s : Int} : numOf raw = some (n, s) ↔ numOk n s = true ∧ showL 3 n s [] = raw := by
  unfold numOf
  constructor
  · intro h
    split at h
    · rename_i h1
      simp only [Option.some.injEq] at h
      rw [h] at h1
      exact h1
    · cases h
  · rintro ⟨h1, h2⟩
    have hs := (numOk_bounds h1).1
    have e : candN raw = (n, s) := by rw [← h2, candN_show hs]
    rw [e, if_pos ⟨h1, h2⟩]
/-- The number of a blank that is written so. -/
def blankOf (p : List Int) : Option Nat := if valL p ≤ 999999 ∧ digitsL (valL p) = p then some (valL p) else none
theorem blankOf_some {p : List Int} {n : Nat} : blankOf p = some n ↔ n ≤ 999999 ∧ digitsL n = p := by
  unfold blankOf
  constructor
  · intro h
    split at h
    · rename_i h1
      simp only [Option.some.injEq] at h
      rw [h] at h1
      exact h1
    · cases h
  · rintro ⟨h1, h2⟩
    have e : valL p = n := by rw [← h2, valL_digits]
    rw [e, if_pos ⟨h1, h2⟩]

/-- A text behind its first sign: what it says, and how long it is with its last sign. -/
def quoteF : Bool → List Int → Option (List Int × Nat)
  | _, [] => none
  | false, b :: r => if b = 34 then some ([], 1) else if b = 92 then (quoteF true r).map fun p => (p.1, p.2 + 1) else (quoteF false r).map fun p => (b :: p.1, p.2 + 1)
  | true, b :: r => if b = 34 ∨ b = 92 then (quoteF false r).map fun p => (b :: p.1, p.2 + 1) else none
theorem quoteF_esc (tx r : List Int) : quoteF false (esc tx ++ 34 :: r) = some (tx, (esc tx).length + 1) := by
  induction tx with
  | nil => simp [esc, quoteF]
  | cons b tx ih =>
    have e : esc (b :: tx) = (if b = 34 ∨ b = 92 then [92, b] else [b]) ++ esc tx := rfl
    rw [e]
    split
    · rename_i h
      simp only [List.cons_append, List.nil_append]
      rw [quoteF, if_neg (by omega), if_pos rfl, quoteF, if_pos h, ih]
      simp
    · rename_i h
      simp only [List.cons_append, List.nil_append]
      rw [quoteF, if_neg (by omega), if_neg (by omega), ih]
      simp
theorem quoteF_some : ∀ (r : List Int), (∀ tx m, quoteF false r = some (tx, m) → r.take m = esc tx ++ [34]) ∧ (∀ tx m, quoteF true r = some (tx, m) → (92 :: r).take (m + 1) = esc tx ++ [34])
  | [] => by simp [quoteF]
  | b :: r => by
    have ih := quoteF_some r
    refine ⟨fun tx m h => ?_, fun tx m h => ?_⟩
    · rw [quoteF] at h
      split at h
      · rename_i hb
        simp only [Option.some.injEq, Prod.mk.injEq] at h
        obtain ⟨rfl, rfl⟩ := h
        simp [hb, esc]
      · split at h
        · rename_i hb
          obtain ⟨⟨tx', m'⟩, h1, h2⟩ := Option.map_eq_some_iff.1 h
          simp only [Prod.mk.injEq] at h2
          obtain ⟨rfl, rfl⟩ := h2
          rw [hb]
          exact ih.2 _ _ h1
        · rename_i hb hb2
          obtain ⟨⟨tx', m'⟩, h1, h2⟩ := Option.map_eq_some_iff.1 h
          simp only [Prod.mk.injEq] at h2
          obtain ⟨rfl, rfl⟩ := h2
          have := ih.1 _ _ h1
          have e : esc (b :: tx') = (if b = 34 ∨ b = 92 then [92, b] else [b]) ++ esc tx' := rfl
          rw [e, if_neg (by omega), List.take_succ_cons, this]
          rfl
    · rw [quoteF] at h
      split at h
      · rename_i hb
        obtain ⟨⟨tx', m'⟩, h1, h2⟩ := Option.map_eq_some_iff.1 h
        simp only [Prod.mk.injEq] at h2
        obtain ⟨rfl, rfl⟩ := h2
        have := ih.1 _ _ h1
        have e : esc (b :: tx') = (if b = 34 ∨ b = 92 then [92, b] else [b]) ++ esc tx' := rfl
        rw [e, if_pos hb, List.take_succ_cons, List.take_succ_cons, this]
        rfl
      · cases h
theorem quoteF_le (r tx : List Int) (m : Nat) (h : quoteF false r = some (tx, m)) : m ≤ r.length := by
  suffices ∀ (r : List Int) (f : Bool) (tx : List Int) (m : Nat), quoteF f r = some (tx, m) → m ≤ r.length from this r false tx m h
  intro r
  induction r with
  | nil => intro f tx m h; cases f <;> simp [quoteF] at h
  | cons b r ih =>
    intro f tx m h
    cases f with
    | false =>
      rw [quoteF] at h
      split at h
      · simp only [Option.some.injEq, Prod.mk.injEq] at h
        simp
        omega
      · split at h
        · obtain ⟨⟨tx', m'⟩, h1, h2⟩ := Option.map_eq_some_iff.1 h
          have := ih _ _ _ h1
          simp only [Prod.mk.injEq] at h2
          simp
          omega
        · obtain ⟨⟨tx', m'⟩, h1, h2⟩ := Option.map_eq_some_iff.1 h
          have := ih _ _ _ h1
          simp only [Prod.mk.injEq] at h2
          simp
          omega
    | true =>
      rw [quoteF] at h
      split at h
      · obtain ⟨⟨tx', m'⟩, h1, h2⟩ := Option.map_eq_some_iff.1 h
        have := ih _ _ _ h1
        simp only [Prod.mk.injEq] at h2
        simp
        omega
      · cases h

/-- A token: 0 a term, 1 a variable, 2 a word, 3 a sign; its bytes; its term. -/
structure PT where
  kind : Nat
  raw : List Int
  td : TD
def td0 : TD := ⟨0, [], 0, 0⟩
def signB (b : Int) : Bool := [46, 123, 125, 40, 41, 42, 43, 45, 47, 61, 60, 38, 124].contains b
/-- The token that a text begins with. -/
def tokOf : List Int → Option PT
  | [] => none
  | b :: r =>
    if (digit b || (b == 45 && digitHd r)) = true then (numOf (b :: r.take (pieceLen r))).map fun p => ⟨0, b :: r.take (pieceLen r), ⟨3, [], p.1, p.2⟩⟩
    else if (b == 60 && nameOk (r.take (pieceLen r)) && (r.drop (pieceLen r))[0]? == some 62) = true then some ⟨0, 60 :: (r.take (pieceLen r) ++ [62]), ⟨0, r.take (pieceLen r), 0, 0⟩⟩
    else if b = 34 then (quoteF false r).bind fun p => if textOk p.1 = true then some ⟨0, 34 :: r.take p.2, ⟨2, p.1, 0, 0⟩⟩ else none
    else if (b == 95 && r[0]? == some 58) = true then (blankOf ((r.drop 1).take (pieceLen (r.drop 1)))).map fun n => ⟨0, 95 :: 58 :: (r.drop 1).take (pieceLen (r.drop 1)), ⟨1, [], n, 0⟩⟩
    else if (b == 63 && nameOk (r.take (pieceLen r))) = true then some ⟨1, 63 :: r.take (pieceLen r), td0⟩
    else if great b = true then some ⟨2, (b :: r).take (greatLen (b :: r)), td0⟩
    else if signB b = true then some ⟨3, [b], td0⟩ else none
end Go.Proofs.YtiodiooaaojbhaaGreatDoor
