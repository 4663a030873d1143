/- Texts put together: GdrG DrwE TrmA -/
import Derived.Test.YtobnpfcgcoooeaaGreatDoorMk27
import Derived.Test.YtobnpfcgcoooeaaGreatDoorMk12
import Derived.Test.YtobnpfcgcoooeaaGreatDoorMk23
import Derived.Test.YtobnpfcgcoooeaaGreatDoorMk05
import Derived.Test.YtobnpfcgcoooeaaGreatDoorMk07
import Derived.Deep.RegionHeld3
/- GdrG -/
namespace Go.Proofs.YtobnpfcgcoooeaaGreatDoor
open Go.RowKit Go.Deep
set_option maxRecDepth 100000

/-- A drawn triple whose texts lie from B on. -/
structure GX (w : World) (B : Nat) (y : G1) : Prop where
  t : DT w B w.heap.size y.t y.bt
  u : DT w B w.heap.size y.u y.bu
  v : DT w B w.heap.size y.v y.bv
  s : S3 y.t y.u y.v
theorem GX.past {w w' : World} {B c : Nat} {y : G1} (h : GX w B y) (hp : Past c w w') (hc : c < B) : GX w' B y :=
  ⟨(h.t.past hp (.inl hc)).mono (Nat.le_refl _) hp.size (Nat.le_refl _), (h.u.past hp (.inl hc)).mono (Nat.le_refl _) hp.size (Nat.le_refl _), (h.v.past hp (.inl hc)).mono (Nat.le_refl _) hp.size (Nat.le_refl _), h.s⟩
theorem GX.mono {w : World} {B B' : Nat} {y : G1} (h : GX w B y) (hB : B' ≤ B) : GX w B' y :=
  ⟨h.t.mono hB (Nat.le_refl _) (Nat.le_refl _), h.u.mono hB (Nat.le_refl _) (Nat.le_refl _), h.v.mono hB (Nat.le_refl _) (Nat.le_refl _), h.s⟩
theorem GX.below {w w' : World} {B : Nat} {y : G1} (h : GX w B y) (hb : Below w.heap.size w w') : GX w' B y :=
  ⟨(h.t.below hb).mono (Nat.le_refl _) hb.size (Nat.le_refl _), (h.u.below hb).mono (Nat.le_refl _) hb.size (Nat.le_refl _), (h.v.below hb).mono (Nat.le_refl _) hb.size (Nat.le_refl _), h.s⟩
theorem GX.gt {w : World} {B : Nat} {y : G1} (h : GX w B y) : GT w y := ⟨h.t.fit, h.u.fit, h.v.fit, h.s, h.t.bs, h.u.bs, h.v.bs⟩
theorem OwnG.slice {w : World} {B : Nat} {v : Value} {l : List G1} (h : OwnG w B v l) : ∃ a n c, v = .slice a n c := by
  rcases h.form with ⟨e, _⟩ | ⟨g, c, e, _⟩
  · exact ⟨_, _, _, e⟩
  · exact ⟨_, _, _, e⟩
theorem OwnG.one {w : World} {B : Nat} {v : Value} {l : List G1} (h : OwnG w B v l) : v.oneCell' = true := by
  obtain ⟨a, n, c, rfl⟩ := h.slice
  rfl
theorem OwnG.len {w : World} {B : Nat} {a : Option Addr} {n c : Nat} {l : List G1} (h : OwnG w B (.slice a n c) l) : n = l.length := by
  rcases h.form with ⟨e, rfl⟩ | ⟨g, c', e, _⟩
  · simp only [Value.slice.injEq] at e
    exact e.2.1
  · simp only [Value.slice.injEq] at e
    exact e.2.1
theorem kept_past {g p : Nat} {w w' : World} (h : Past g w.drew w') : Kept p (some g) w w' := ⟨h.size, fun b h1 _ h3 => h.block b h1 (fun e => h3 (by rw [e]))⟩
/-- What a draw of a graph answers. -/
def GraphDrawn (g : Nat) (a : Option Addr) (len cap : Nat) (w : World) (e : Ending) (w' : World) : Prop :=
  ∃ v l, e = .returned (.agg #[v]) ∧ OwnG w' w.heap.size v l ∧ l.length ≤ 20 ∧ (∀ y ∈ l, GX w' w.heap.size y) ∧ Past g w w' ∧ Cur w' g a len cap

set_option maxHeartbeats 8000000 in
theorem l2graph_any (g : Nat) (a : Option Addr) (len cap : Nat) (w : World) (hlen : len ≤ 9223372036854775807) (hC : Cur w g a len cap) :
    Calls Tryz.prog 34 #[.pointer (some ⟨g, 0, none⟩)] w (GraphDrawn g a len cap w) := by
  have BL := fun w (n : Nat) (h : Cur w g a len cap) (h1 : 1 ≤ n) (h2 : n ≤ 256) => l1Below_any g a len cap n w hlen h h1 h2
  have TR := fun w h => l2triple_any g a len cap w hlen h
  have hgl := hC.lt
  have HC : Hid (Cur w g a len cap) := hC
  clear hC
  go_enter Tryz.func34, Tryz.ntmps34
  go_wp2_with fail
  refine (BL _ 5 (HC.out.below (bl_alloc (bl_a _) _)) (by omega) (by omega)).mono ?_
  rintro e w1 ⟨p1, rfl, hp1, hP1, hC1⟩
  go_wp2_with fail
  refine (BL _ 6 hC1 (by omega) (by omega)).mono ?_
  rintro e w2 ⟨p2, rfl, hp2, hP2, hC2⟩
  have hP12 := hP1.trans hP2
  have HP2 : Hid (Past g w w2) := (Past.of_below (bl_alloc (bl_a _) _)).trans hP12
  have HC2 : Hid (Cur w2 g a len cap) := hC2
  have hl2 : w.heap.size + 1 + 1 ≤ w2.heap.size := by have := hP12.size; simpa using this
  have HX2 : Hid (w2.cell? ⟨w.heap.size + 1, 0, none⟩ = some (.slice none 0 0) ∧ w2.frozen? ⟨w.heap.size + 1, 0, none⟩ = false ∧ w.heap.size + 1 < w2.heap.size) := ⟨(hP12.cell (p := ⟨w.heap.size + 1, 0, none⟩) (by simp) (by show w.heap.size + 1 ≠ g; omega)).trans (by simp [go_sem]), (hP12.frozen (p := ⟨w.heap.size + 1, 0, none⟩) (by simp) (by show w.heap.size + 1 ≠ g; omega)).trans (by simp [go_sem]), by omega⟩
  have HR2 : Hid (w2.cell? ⟨w.heap.size, 0, none⟩ = some (.slice none 0 0) ∧ w2.frozen? ⟨w.heap.size, 0, none⟩ = false) := ⟨(hP12.cell (p := ⟨w.heap.size, 0, none⟩) (by simp; omega) (by show w.heap.size ≠ g; omega)).trans (by simp [go_sem]), (hP12.frozen (p := ⟨w.heap.size, 0, none⟩) (by simp; omega) (by show w.heap.size ≠ g; omega)).trans (by simp [go_sem])⟩
  have hmul : p1 * p2 ≤ 20 := Nat.le_trans (Nat.mul_le_mul (show p1 ≤ 4 by omega) (show p2 ≤ 5 by omega)) (by omega)
  obtain ⟨n, hn⟩ : ∃ n : Nat, n = p1 * p2 := ⟨_, rfl⟩
  have hnz : (p1 : Int) * (p2 : Int) = (n : Int) := by rw [hn]; simp
  rw [← hn] at hmul
  clear hP1 hC1 hP2 hC2 hP12 BL hn
  go_wp2_with fail
  have HG2 : Hid (∀ y ∈ ([] : List G1), GX w2 (w.heap.size + 1 + 1) y) := fun y hy => absurd hy (by simp)
  go_loopw [5] (fun iv wr => ∃ (i : Nat) (av : Option Addr) (cv : Nat) (l : List G1), i ≤ n ∧ iv = .int .i64 i ∧ Hid (OwnG wr (w.heap.size + 1 + 1) (.slice av l.length cv) l) ∧ l.length ≤ i ∧ Hid (∀ y ∈ l, GX wr (w.heap.size + 1 + 1) y) ∧ Hid (wr.cell? ⟨w.heap.size + 1, 0, none⟩ = some (.slice av l.length cv) ∧ wr.frozen? ⟨w.heap.size + 1, 0, none⟩ = false ∧ w.heap.size + 1 < wr.heap.size) ∧ Hid (wr.cell? ⟨w.heap.size, 0, none⟩ = some (.slice none 0 0) ∧ wr.frozen? ⟨w.heap.size, 0, none⟩ = false) ∧ Hid (Past g w wr) ∧ Hid (Cur wr g a len cap)) (fun iv _ => n - (intOf iv).toNat)
  case atStart => exact ⟨0, none, 0, [], Nat.zero_le _, rfl, OwnG.nil _ _, Nat.le_refl _, HG2, HX2, HR2, HP2, HC2⟩
  case round =>
    obtain ⟨i, av, cv, l, hi, rfl, HO, hL, HG, HX, HR, HP, HCr⟩ := hrel
    clear HX2 HR2 HP2 HC2 HG2
    by_cases hlt : i < n
    · have hltz : (i : Int) < (n : Int) := by omega
      have hxl := HX.out.2.2
      have hszp := HP.out.size
      have e3 : wr.drew.heap.size = wr.heap.size := rfl
      have hsz : w.heap.size + 1 + 1 ≤ wr.drew.heap.size := by omega
      have d0 : wr.drew.cell? ⟨w.heap.size + 1, 0, none⟩ = some (.slice av l.length cv) := HX.out.1
      have HCd : Hid (Cur wr.drew g a len cap) := HCr.out.below (Below.drew (Below.refl _ _))
      have PUT : Hid (∀ w7 (x : G1), Past g wr.drew w7 → GX w7 (w.heap.size + 1 + 1) x → Calls Tryz.prog 62 #[.slice av l.length cv, .agg (e12 x.t x.u x.v).toArray] w7 (PutG w7 (w.heap.size + 1 + 1) l x)) := fun w7 x hp hx => by
        have hp' : Past g wr w7 := (Past.of_below (Below.drew (Below.refl _ _))).trans hp
        exact l2put_any av cv l x w7 (w.heap.size + 1 + 1) (by omega) (HO.out.past hp' (by omega)) (Nat.le_trans hsz hp.size) (fun y hy => ((HG.out y hy).past hp' (by omega)).gt) hx.gt
      go_wp2_with fail
      refine wp_region_held_drew (S := fun w' => Kept (w.heap.size + 1) (some g) wr w') (by kernel_rfl) ?_ (fun hHeld => ?_)
      · exact Kept.drew0 _ _ _
      refine take_at (i := 0) 16 (v := ?v1) rfl rfl (by kernel_rfl) (by kernel_rfl) (by kernel_rfl) (fun _ _ _ h => h) (Or.inl ⟨by rfl, ?y1⟩) hHeld ?r1
      case y1 => (intro w' hSw; skip; go_simp; (try with_reducible rfl))
      try simp only [Act.put, List.setIfInBounds_toArray, List.set_cons_zero, List.set_cons_succ]
      refine take_at (i := 2) 18 (v := ?v2) rfl rfl (by kernel_rfl) (by kernel_rfl) (by kernel_rfl) (fun _ _ _ h => h) (Or.inl ⟨by rfl, ?y2⟩) hHeld ?r2
      case y2 => (intro w' hSw; skip; go_simp; (try with_reducible rfl))
      try simp only [Act.put, List.setIfInBounds_toArray, List.set_cons_zero, List.set_cons_succ]
      refine wpAnyH_ready (rs := [1, 3]) (by kernel_rfl) (by simp) ?_
      refine AllReadyH.cons rfl (fun K hK => ?_) (AllReadyH.cons rfl (fun K hK => ?_) AllReadyH.nil)
      · go_simp
        refine hK.out _ _ ?_ (fun hHeld => ?_)
        · exact Kept.drew0 _ _ _
        clear hK K
        try simp only [Act.put, List.setIfInBounds_toArray, List.set_cons_zero, List.set_cons_succ]
        refine wpAnyH_ready (rs := [3]) (by kernel_rfl) (by simp) ?_
        refine AllReadyH.cons rfl (fun K hK => ?_) AllReadyH.nil
        go_simp
        refine (TR _ HCd.out).mono ?_
        rintro e w7 ⟨⟨t, u, v7, bt, bu, bv, rfl, hS7, hD1, hD2, hD3⟩, hP7, hC7⟩
        have HP7 : Hid (Past g wr.drew w7) := hP7
        have HC7 : Hid (Cur w7 g a len cap) := hC7
        have HG7 : Hid (GX w7 (w.heap.size + 1 + 1) ⟨t, u, v7, bt, bu, bv⟩) := ⟨hD1.mono hsz (Nat.le_refl _) (Nat.le_refl _), hD2.mono hsz (Nat.le_refl _) (Nat.le_refl _), hD3.mono hsz (Nat.le_refl _) (Nat.le_refl _), hS7⟩
        have HK7 : Hid (Kept (w.heap.size + 1) (some g) wr w7) := kept_past HP7.out
        clear hS7 hD1 hD2 hD3 hP7 hC7
        have q0 : w7.cell? ⟨w.heap.size + 1, 0, none⟩ = some (.slice av l.length cv) := (HP7.out.cell (p := ⟨w.heap.size + 1, 0, none⟩) (by show w.heap.size + 1 < _; omega) (by show w.heap.size + 1 ≠ g; omega)).trans d0
        simp only [e12]
        go_wp2_with fail
        refine hK.out _ _ ?_ (fun hHeld => ?_)
        · exact HK7.out
        clear hK K
        try simp only [Act.put, List.setIfInBounds_toArray, List.set_cons_zero, List.set_cons_succ]
        refine wpAnyH_ready (rs := [4]) (by kernel_rfl) (by simp) ?_
        refine AllReadyH.cons rfl (fun K hK => ?_) AllReadyH.nil
        go_simp
        have hPUT := PUT.out w7 ⟨t, u, v7, bt, bu, bv⟩ HP7.out HG7.out
        simp only [e12] at hPUT
        refine hPUT.mono ?_
        rintro e w8 ⟨v8, l8, rfl, hO8, hl8, hm8, hb8⟩
        have HB8 : Hid (Below w7.heap.size w7 w8) := hb8
        have HO8 : Hid (OwnG w8 (w.heap.size + 1 + 1) v8 l8) := hO8
        have HM8 : Hid (∀ y ∈ l8, y ∈ l ∨ y = ⟨t, u, v7, bt, bu, bv⟩) := hm8
        have HL8 : Hid (l8.length ≤ l.length + 1) := hl8
        have hone : v8.oneCell' = true := hO8.one
        have q1 : w8.cell? ⟨w.heap.size + 1, 0, none⟩ = some (.slice av l.length cv) := (HB8.out.cell (p := ⟨w.heap.size + 1, 0, none⟩) (by show w.heap.size + 1 < _; have := HP7.out.size; have h2 : wr.drew.heap.size = wr.heap.size := rfl; omega)).trans q0
        have hPwr : Past g wr w8 := ((Past.of_below (Below.drew (Below.refl _ _))).trans HP7.out).trans (Past.of_below HB8.out)
        have q2 : w8.frozen? ⟨w.heap.size + 1, 0, none⟩ = false := (hPwr.frozen (p := ⟨w.heap.size + 1, 0, none⟩) (by show w.heap.size + 1 < _; omega) (by show w.heap.size + 1 ≠ g; omega)).trans HX.out.2.1
        clear hO8 hm8 hb8 hl8 hPUT
        obtain ⟨a8, n8, c8, rfl⟩ := HO8.out.slice
        obtain rfl := HO8.out.len
        go_wp2_with fail
        refine hK.out _ _ ?_ (fun hHeld => ?_)
        · exact HK7.out.below HB8.out
        clear hK K
        try simp only [Act.put, List.setIfInBounds_toArray, List.set_cons_zero, List.set_cons_succ]
        refine take_at (i := 5) 21 (v := ?v3) rfl rfl (by kernel_rfl) (by kernel_rfl) (by kernel_rfl) (fun _ _ _ h => h) (Or.inl ⟨by rfl, ?y3⟩) hHeld ?r3
        case y3 => (intro w' hSw; skip; go_simp; (try with_reducible rfl))
        try simp only [Act.put, List.setIfInBounds_toArray, List.set_cons_zero, List.set_cons_succ]
        refine wpAnyH_ready (rs := [6]) (by kernel_rfl) (by simp) ?_
        refine AllReadyH.cons rfl (fun K hK => ?_) AllReadyH.nil
        go_simp
        refine hK.out _ _ ?_ (fun hHeld => ?_)
        · exact (HK7.out.below HB8.out).set 0 _
        clear hK K
        try simp only [Act.put, List.setIfInBounds_toArray, List.set_cons_zero, List.set_cons_succ]
        refine wpAnyH_done (by kernel_rfl) ?_ _
        clear hHeld
        have hQ : Past (w.heap.size + 1) w8 (w8.setCell ⟨w.heap.size + 1, 0, none⟩ (.slice a8 l8.length c8)) := (Past.refl (w.heap.size + 1) w8).set 0 _
        have HO9 : Hid (OwnG (w8.setCell ⟨w.heap.size + 1, 0, none⟩ (.slice a8 l8.length c8)) (w.heap.size + 1 + 1) (.slice a8 l8.length c8) l8) := HO8.out.past hQ (by omega)
        have HP9 : Hid (Past g w (w8.setCell ⟨w.heap.size + 1, 0, none⟩ (.slice a8 l8.length c8))) := past_other (HP.out.trans hPwr) hQ (by omega)
        have HC9 : Hid (Cur (w8.setCell ⟨w.heap.size + 1, 0, none⟩ (.slice a8 l8.length c8)) g a len cap) := HC.out.glue (HC7.out.below HB8.out) HP9.out (hQ.block g (HC7.out.below HB8.out).lt (by omega))
        have HG9 : Hid (∀ y ∈ l8, GX (w8.setCell ⟨w.heap.size + 1, 0, none⟩ (.slice a8 l8.length c8)) (w.heap.size + 1 + 1) y) := fun y hy => by
          rcases HM8.out y hy with h | h
          · exact ((HG.out y h).past hPwr (by omega)).past hQ (by omega)
          · rw [h]; exact (HG7.out.below HB8.out).past hQ (by omega)
        have HX9 : Hid ((w8.setCell ⟨w.heap.size + 1, 0, none⟩ (.slice a8 l8.length c8)).cell? ⟨w.heap.size + 1, 0, none⟩ = some (.slice a8 l8.length c8) ∧ (w8.setCell ⟨w.heap.size + 1, 0, none⟩ (.slice a8 l8.length c8)).frozen? ⟨w.heap.size + 1, 0, none⟩ = false ∧ w.heap.size + 1 < (w8.setCell ⟨w.heap.size + 1, 0, none⟩ (.slice a8 l8.length c8)).heap.size) := ⟨set_same q1, by rw [World.frozen?_setCell]; exact q2, by simp; have h1 := HP7.out.size; have h2 := HB8.out.size; have h3 : wr.drew.heap.size = wr.heap.size := rfl; omega⟩
        have HR9 : Hid ((w8.setCell ⟨w.heap.size + 1, 0, none⟩ (.slice a8 l8.length c8)).cell? ⟨w.heap.size, 0, none⟩ = some (.slice none 0 0) ∧ (w8.setCell ⟨w.heap.size + 1, 0, none⟩ (.slice a8 l8.length c8)).frozen? ⟨w.heap.size, 0, none⟩ = false) := ⟨(hQ.cell (p := ⟨w.heap.size, 0, none⟩) (by show w.heap.size < _; have h1 := hPwr.size; omega) (by show w.heap.size ≠ w.heap.size + 1; omega)).trans ((hPwr.cell (p := ⟨w.heap.size, 0, none⟩) (by show w.heap.size < _; omega) (by show w.heap.size ≠ g; omega)).trans HR.out.1), (hQ.frozen (p := ⟨w.heap.size, 0, none⟩) (by show w.heap.size < _; have h1 := hPwr.size; omega) (by show w.heap.size ≠ w.heap.size + 1; omega)).trans ((hPwr.frozen (p := ⟨w.heap.size, 0, none⟩) (by show w.heap.size < _; omega) (by show w.heap.size ≠ g; omega)).trans HR.out.2)⟩
        generalize (w8.setCell ⟨w.heap.size + 1, 0, none⟩ (.slice a8 l8.length c8)) = w9 at *
        go_wp2_with fail
        go_roundw
        case rel => exact ⟨i + 1, a8, c8, l8, by omega, by go_num, HO9, (show l8.length ≤ i + 1 by have h1 := HL8.out; omega), HG9, HX9, HR9, HP9, HC9⟩
        case measure => simp [intOf]; omega
      · go_simp
        refine (TR _ HCd.out).mono ?_
        rintro e w7 ⟨⟨t, u, v7, bt, bu, bv, rfl, hS7, hD1, hD2, hD3⟩, hP7, hC7⟩
        have HP7 : Hid (Past g wr.drew w7) := hP7
        have HC7 : Hid (Cur w7 g a len cap) := hC7
        have HG7 : Hid (GX w7 (w.heap.size + 1 + 1) ⟨t, u, v7, bt, bu, bv⟩) := ⟨hD1.mono hsz (Nat.le_refl _) (Nat.le_refl _), hD2.mono hsz (Nat.le_refl _) (Nat.le_refl _), hD3.mono hsz (Nat.le_refl _) (Nat.le_refl _), hS7⟩
        have HK7 : Hid (Kept (w.heap.size + 1) (some g) wr w7) := kept_past HP7.out
        clear hS7 hD1 hD2 hD3 hP7 hC7
        have q0 : w7.cell? ⟨w.heap.size + 1, 0, none⟩ = some (.slice av l.length cv) := (HP7.out.cell (p := ⟨w.heap.size + 1, 0, none⟩) (by show w.heap.size + 1 < _; omega) (by show w.heap.size + 1 ≠ g; omega)).trans d0
        simp only [e12]
        go_wp2_with fail
        refine hK.out _ _ ?_ (fun hHeld => ?_)
        · exact HK7.out
        clear hK K
        try simp only [Act.put, List.setIfInBounds_toArray, List.set_cons_zero, List.set_cons_succ]
        refine wpAnyH_ready (rs := [1]) (by kernel_rfl) (by simp) ?_
        refine AllReadyH.cons rfl (fun K hK => ?_) AllReadyH.nil
        go_simp
        refine hK.out _ _ ?_ (fun hHeld => ?_)
        · exact HK7.out
        clear hK K
        try simp only [Act.put, List.setIfInBounds_toArray, List.set_cons_zero, List.set_cons_succ]
        refine wpAnyH_ready (rs := [4]) (by kernel_rfl) (by simp) ?_
        refine AllReadyH.cons rfl (fun K hK => ?_) AllReadyH.nil
        go_simp
        have hPUT := PUT.out w7 ⟨t, u, v7, bt, bu, bv⟩ HP7.out HG7.out
        simp only [e12] at hPUT
        refine hPUT.mono ?_
        rintro e w8 ⟨v8, l8, rfl, hO8, hl8, hm8, hb8⟩
        have HB8 : Hid (Below w7.heap.size w7 w8) := hb8
        have HO8 : Hid (OwnG w8 (w.heap.size + 1 + 1) v8 l8) := hO8
        have HM8 : Hid (∀ y ∈ l8, y ∈ l ∨ y = ⟨t, u, v7, bt, bu, bv⟩) := hm8
        have HL8 : Hid (l8.length ≤ l.length + 1) := hl8
        have hone : v8.oneCell' = true := hO8.one
        have q1 : w8.cell? ⟨w.heap.size + 1, 0, none⟩ = some (.slice av l.length cv) := (HB8.out.cell (p := ⟨w.heap.size + 1, 0, none⟩) (by show w.heap.size + 1 < _; have := HP7.out.size; have h2 : wr.drew.heap.size = wr.heap.size := rfl; omega)).trans q0
        have hPwr : Past g wr w8 := ((Past.of_below (Below.drew (Below.refl _ _))).trans HP7.out).trans (Past.of_below HB8.out)
        have q2 : w8.frozen? ⟨w.heap.size + 1, 0, none⟩ = false := (hPwr.frozen (p := ⟨w.heap.size + 1, 0, none⟩) (by show w.heap.size + 1 < _; omega) (by show w.heap.size + 1 ≠ g; omega)).trans HX.out.2.1
        clear hO8 hm8 hb8 hl8 hPUT
        obtain ⟨a8, n8, c8, rfl⟩ := HO8.out.slice
        obtain rfl := HO8.out.len
        go_wp2_with fail
        refine hK.out _ _ ?_ (fun hHeld => ?_)
        · exact HK7.out.below HB8.out
        clear hK K
        try simp only [Act.put, List.setIfInBounds_toArray, List.set_cons_zero, List.set_cons_succ]
        refine take_at (i := 5) 21 (v := ?v4) rfl rfl (by kernel_rfl) (by kernel_rfl) (by kernel_rfl) (fun _ _ _ h => h) (Or.inl ⟨by rfl, ?y4⟩) hHeld ?r4
        case y4 => (intro w' hSw; skip; go_simp; (try with_reducible rfl))
        try simp only [Act.put, List.setIfInBounds_toArray, List.set_cons_zero, List.set_cons_succ]
        refine wpAnyH_ready (rs := [6]) (by kernel_rfl) (by simp) ?_
        refine AllReadyH.cons rfl (fun K hK => ?_) AllReadyH.nil
        go_simp
        refine hK.out _ _ ?_ (fun hHeld => ?_)
        · exact (HK7.out.below HB8.out).set 0 _
        clear hK K
        try simp only [Act.put, List.setIfInBounds_toArray, List.set_cons_zero, List.set_cons_succ]
        refine wpAnyH_done (by kernel_rfl) ?_ _
        clear hHeld
        have hQ : Past (w.heap.size + 1) w8 (w8.setCell ⟨w.heap.size + 1, 0, none⟩ (.slice a8 l8.length c8)) := (Past.refl (w.heap.size + 1) w8).set 0 _
        have HO9 : Hid (OwnG (w8.setCell ⟨w.heap.size + 1, 0, none⟩ (.slice a8 l8.length c8)) (w.heap.size + 1 + 1) (.slice a8 l8.length c8) l8) := HO8.out.past hQ (by omega)
        have HP9 : Hid (Past g w (w8.setCell ⟨w.heap.size + 1, 0, none⟩ (.slice a8 l8.length c8))) := past_other (HP.out.trans hPwr) hQ (by omega)
        have HC9 : Hid (Cur (w8.setCell ⟨w.heap.size + 1, 0, none⟩ (.slice a8 l8.length c8)) g a len cap) := HC.out.glue (HC7.out.below HB8.out) HP9.out (hQ.block g (HC7.out.below HB8.out).lt (by omega))
        have HG9 : Hid (∀ y ∈ l8, GX (w8.setCell ⟨w.heap.size + 1, 0, none⟩ (.slice a8 l8.length c8)) (w.heap.size + 1 + 1) y) := fun y hy => by
          rcases HM8.out y hy with h | h
          · exact ((HG.out y h).past hPwr (by omega)).past hQ (by omega)
          · rw [h]; exact (HG7.out.below HB8.out).past hQ (by omega)
        have HX9 : Hid ((w8.setCell ⟨w.heap.size + 1, 0, none⟩ (.slice a8 l8.length c8)).cell? ⟨w.heap.size + 1, 0, none⟩ = some (.slice a8 l8.length c8) ∧ (w8.setCell ⟨w.heap.size + 1, 0, none⟩ (.slice a8 l8.length c8)).frozen? ⟨w.heap.size + 1, 0, none⟩ = false ∧ w.heap.size + 1 < (w8.setCell ⟨w.heap.size + 1, 0, none⟩ (.slice a8 l8.length c8)).heap.size) := ⟨set_same q1, by rw [World.frozen?_setCell]; exact q2, by simp; have h1 := HP7.out.size; have h2 := HB8.out.size; have h3 : wr.drew.heap.size = wr.heap.size := rfl; omega⟩
        have HR9 : Hid ((w8.setCell ⟨w.heap.size + 1, 0, none⟩ (.slice a8 l8.length c8)).cell? ⟨w.heap.size, 0, none⟩ = some (.slice none 0 0) ∧ (w8.setCell ⟨w.heap.size + 1, 0, none⟩ (.slice a8 l8.length c8)).frozen? ⟨w.heap.size, 0, none⟩ = false) := ⟨(hQ.cell (p := ⟨w.heap.size, 0, none⟩) (by show w.heap.size < _; have h1 := hPwr.size; omega) (by show w.heap.size ≠ w.heap.size + 1; omega)).trans ((hPwr.cell (p := ⟨w.heap.size, 0, none⟩) (by show w.heap.size < _; omega) (by show w.heap.size ≠ g; omega)).trans HR.out.1), (hQ.frozen (p := ⟨w.heap.size, 0, none⟩) (by show w.heap.size < _; have h1 := hPwr.size; omega) (by show w.heap.size ≠ w.heap.size + 1; omega)).trans ((hPwr.frozen (p := ⟨w.heap.size, 0, none⟩) (by show w.heap.size < _; omega) (by show w.heap.size ≠ g; omega)).trans HR.out.2)⟩
        generalize (w8.setCell ⟨w.heap.size + 1, 0, none⟩ (.slice a8 l8.length c8)) = w9 at *
        go_wp2_with fail
        go_roundw
        case rel => exact ⟨i + 1, a8, c8, l8, by omega, by go_num, HO9, (show l8.length ≤ i + 1 by have h1 := HL8.out; omega), HG9, HX9, HR9, HP9, HC9⟩
        case measure => simp [intOf]; omega
    · have heq : i = n := by omega
      subst heq
      have x0 := HX.out.1
      have x1 := HR.out.1
      have x2 := HR.out.2
      go_wp2_with fail
      have hy := HX.out.2.2
      have y0 := set_same x1 (v := .slice av l.length cv)
      refine bodyPost_ret (v := .agg #[.slice av l.length cv]) (by simp [results, Tryz.results34, go_sem, y0]) rfl ?_
      have hQ : Past w.heap.size wr (wr.setCell ⟨w.heap.size, 0, none⟩ (.slice av l.length cv)) := (Past.refl w.heap.size wr).set 0 _
      exact ⟨_, l, rfl, (HO.out.past hQ (by omega)).base (by omega), by omega, fun y hy => ((HG.out y hy).past hQ (by omega)).mono (by omega), past_other HP.out hQ (by omega), HC.out.glue HCr.out (past_other HP.out hQ (by omega)) (hQ.block g HCr.out.lt (by omega))⟩
end Go.Proofs.YtobnpfcgcoooeaaGreatDoor

/- DrwE -/
namespace Go.Proofs.YtobnpfcgcoooeaaGreatDoor
open Go.RowKit Go.Deep

/-- A term's parts, with its text's place. -/
structure Tq where
  k : Int
  a : Option Addr
  len : Nat
  cap : Nat
  bs : List Int
  n : Int
  s : Int
/-- Its numbers are of 64 bits, its text is there. -/
def Tq.at (t : Tq) (w : World) : Prop := (-9223372036854775808 ≤ t.n ∧ t.n ≤ 9223372036854775807) ∧ (-9223372036854775808 ≤ t.s ∧ t.s ≤ 9223372036854775807) ∧ Bs w t.a t.len t.bs
theorem Tq.at.below {t : Tq} {w w' : World} (h : t.at w) (hb : Below w.heap.size w w') : t.at w' := ⟨h.1, h.2.1, h.2.2.below hb⟩

end Go.Proofs.YtobnpfcgcoooeaaGreatDoor

/- TrmA -/
namespace Go.Proofs.YtobnpfcgcoooeaaGreatDoor
open Go.RowKit Go.Deep

theorem sameBytes_like (a a' : Option Addr) (len cap len' cap' : Nat) (bs : List Int) (w : World) (h : Bs w a len bs) (h' : Bs w a' len' bs) :
    Calls Tryz.prog 33 #[.slice a len cap, .slice a' len' cap'] w fun e w' => e = .returned (.bool true) ∧ w' = w := by
  have e1 := h.str (cap := cap)
  have e2 := h'.str (cap := cap')
  clear h h'
  go_enter Tryz.func33, Tryz.ntmps33
  go_wp2
  go_ret
  exact ⟨by simp, rfl⟩
theorem sameTerm_like (t u : Tq) (w : World) (hk : t.k = u.k) (hb : t.bs = u.bs) (hn : t.n = u.n) (hs : t.s = u.s) (h : Bs w t.a t.len t.bs) (h' : Bs w u.a u.len u.bs) :
    Calls Tryz.prog 11 #[.agg #[.int .i64 t.k, .slice t.a t.len t.cap, .int .i64 t.n, .int .i64 t.s], .agg #[.int .i64 u.k, .slice u.a u.len u.cap, .int .i64 u.n, .int .i64 u.s]] w fun e w' => e = .returned (.bool true) ∧ Below w.heap.size w w' := by
  have S := fun w h h' => sameBytes_like t.a u.a t.len t.cap u.len u.cap t.bs w h h'
  rw [← hb] at h'
  have k1 : (t.k == u.k) = true := by simp [hk]
  have n1 : (t.n == u.n) = true := by simp [hn]
  have s1 : (t.s == u.s) = true := by simp [hs]
  clear hk hb hn hs
  go_enter Tryz.func11, Tryz.ntmps11
  go_wp2_with fail
  refine (S _ (h.below (bl_alloc (bl_a _) _)) (h'.below (bl_alloc (bl_a _) _))).mono ?_
  rintro e w1 ⟨rfl, rfl⟩
  clear S
  go_wp2
  go_ret
  exact ⟨by simp [*], bl_alloc (bl_a _) _⟩

def Tq.td (t : Tq) : TD := ⟨t.k, t.bs, t.n, t.s⟩
end Go.Proofs.YtobnpfcgcoooeaaGreatDoor
