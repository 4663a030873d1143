/- Texts put together: GdrG DrwK -/
import Derived.Test.YtoclingolfdfeaaGreatDoorMk14
import Derived.Test.YtoclingolfdfeaaGreatDoorMk05
/- GdrG -/
namespace Go.Proofs.YtoclingolfdfeaaGreatDoor
open Go.RowKit Go.Deep
set_option maxRecDepth 100000

/-- A drawn triple whose texts lie from B on. -/
structure GX (w : World) (B : Nat) (y : G1) : Prop where
  t : DT w B w.heap.size y.t y.bt
  u : DT w B w.heap.size y.u y.bu
  v : DT w B w.heap.size y.v y.bv
  s : S3 y.t y.u y.v
theorem GX.past {w w' : World} {B c : Nat} {y : G1} (h : GX w B y) (hp : Past c w w') (hc : c < B) : GX w' B y :=
  ⟨(h.t.past hp (.inl hc)).mono (Nat.le_refl _) hp.size (Nat.le_refl _), (h.u.past hp (.inl hc)).mono (Nat.le_refl _) hp.size (Nat.le_refl _), (h.v.past hp (.inl hc)).mono (Nat.le_refl _) hp.size (Nat.le_refl _), h.s⟩
theorem GX.mono {w : World} {B B' : Nat} {y : G1} (h : GX w B y) (hB : B' ≤ B) : GX w B' y :=
  ⟨h.t.mono hB (Nat.le_refl _) (Nat.le_refl _), h.u.mono hB (Nat.le_refl _) (Nat.le_refl _), h.v.mono hB (Nat.le_refl _) (Nat.le_refl _), h.s⟩
theorem GX.below {w w' : World} {B : Nat} {y : G1} (h : GX w B y) (hb : Below w.heap.size w w') : GX w' B y :=
  ⟨(h.t.below hb).mono (Nat.le_refl _) hb.size (Nat.le_refl _), (h.u.below hb).mono (Nat.le_refl _) hb.size (Nat.le_refl _), (h.v.below hb).mono (Nat.le_refl _) hb.size (Nat.le_refl _), h.s⟩
theorem GX.gt {w : World} {B : Nat} {y : G1} (h : GX w B y) : GT w y := ⟨h.t.fit, h.u.fit, h.v.fit, h.s, h.t.bs, h.u.bs, h.v.bs⟩
theorem OwnG.slice {w : World} {B : Nat} {v : Value} {l : List G1} (h : OwnG w B v l) : ∃ a n c, v = .slice a n c := by
  rcases h.form with ⟨e, _⟩ | ⟨g, c, e, _⟩
  · exact ⟨_, _, _, e⟩
  · exact ⟨_, _, _, e⟩
theorem OwnG.one {w : World} {B : Nat} {v : Value} {l : List G1} (h : OwnG w B v l) : v.oneCell' = true := by
  obtain ⟨a, n, c, rfl⟩ := h.slice
  rfl
theorem OwnG.len {w : World} {B : Nat} {a : Option Addr} {n c : Nat} {l : List G1} (h : OwnG w B (.slice a n c) l) : n = l.length := by
  rcases h.form with ⟨e, rfl⟩ | ⟨g, c', e, _⟩
  · simp only [Value.slice.injEq] at e
    exact e.2.1
  · simp only [Value.slice.injEq] at e
    exact e.2.1
theorem kept_past {g p : Nat} {w w' : World} (h : Past g w.drew w') : Kept p (some g) w w' := ⟨h.size, fun b h1 _ h3 => h.block b h1 (fun e => h3 (by rw [e]))⟩
/-- What a draw of a graph answers. -/
def GraphDrawn (g : Nat) (a : Option Addr) (len cap : Nat) (w : World) (e : Ending) (w' : World) : Prop :=
  ∃ v l, e = .returned (.agg #[v]) ∧ OwnG w' w.heap.size v l ∧ l.length ≤ 20 ∧ (∀ y ∈ l, GX w' w.heap.size y) ∧ Past g w w' ∧ Cur w' g a len cap

set_option maxHeartbeats 8000000 in
theorem l2graph_any (g : Nat) (a : Option Addr) (len cap : Nat) (w : World) (hlen : len ≤ 9223372036854775807) (hC : Cur w g a len cap) :
    Calls Tryz.prog 75 #[.pointer (some ⟨g, 0, none⟩)] w (GraphDrawn g a len cap w) := by
  have BL := fun w (n : Nat) (h : Cur w g a len cap) (h1 : 1 ≤ n) (h2 : n ≤ 256) => l1Below_any g a len cap n w hlen h h1 h2
  have TR := fun w h => l2triple_any g a len cap w hlen h
  have hgl := hC.lt
  have HC : Hid (Cur w g a len cap) := hC
  clear hC
  go_enter Tryz.func75, Tryz.ntmps75
  go_wp2_with fail
  refine (BL _ 5 (HC.out.below (bl_alloc (bl_a _) _)) (by omega) (by omega)).mono ?_
  rintro e w1 ⟨p1, rfl, hp1, hP1, hC1⟩
  go_wp2_with fail
  refine (BL _ 6 hC1 (by omega) (by omega)).mono ?_
  rintro e w2 ⟨p2, rfl, hp2, hP2, hC2⟩
  have hP12 := hP1.trans hP2
  have HP2 : Hid (Past g w w2) := (Past.of_below (bl_alloc (bl_a _) _)).trans hP12
  have HC2 : Hid (Cur w2 g a len cap) := hC2
  have hl2 : w.heap.size + 1 + 1 ≤ w2.heap.size := by have := hP12.size; simpa using this
  have HX2 : Hid (w2.cell? ⟨w.heap.size + 1, 0, none⟩ = some (.slice none 0 0) ∧ w2.frozen? ⟨w.heap.size + 1, 0, none⟩ = false ∧ w.heap.size + 1 < w2.heap.size) := ⟨(hP12.cell (p := ⟨w.heap.size + 1, 0, none⟩) (by simp) (by show w.heap.size + 1 ≠ g; omega)).trans (by simp [go_sem]), (hP12.frozen (p := ⟨w.heap.size + 1, 0, none⟩) (by simp) (by show w.heap.size + 1 ≠ g; omega)).trans (by simp [go_sem]), by omega⟩
  have HR2 : Hid (w2.cell? ⟨w.heap.size, 0, none⟩ = some (.slice none 0 0) ∧ w2.frozen? ⟨w.heap.size, 0, none⟩ = false) := ⟨(hP12.cell (p := ⟨w.heap.size, 0, none⟩) (by simp; omega) (by show w.heap.size ≠ g; omega)).trans (by simp [go_sem]), (hP12.frozen (p := ⟨w.heap.size, 0, none⟩) (by simp; omega) (by show w.heap.size ≠ g; omega)).trans (by simp [go_sem])⟩
  have hmul : p1 * p2 ≤ 20 := Nat.le_trans (Nat.mul_le_mul (show p1 ≤ 4 by omega) (show p2 ≤ 5 by omega)) (by omega)
  obtain ⟨n, hn⟩ : ∃ n : Nat, n = p1 * p2 := ⟨_, rfl⟩
  have hnz : (p1 : Int) * (p2 : Int) = (n : Int) := by rw [hn]; simp
  rw [← hn] at hmul
  clear hP1 hC1 hP2 hC2 hP12 BL hn
  go_wp2_with fail
  have HG2 : Hid (∀ y ∈ ([] : List G1), GX w2 (w.heap.size + 1 + 1) y) := fun y hy => absurd hy (by simp)
  go_loopw [5] (fun iv wr => ∃ (i : Nat) (av : Option Addr) (cv : Nat) (l : List G1), i ≤ n ∧ iv = .int .i64 i ∧ Hid (OwnG wr (w.heap.size + 1 + 1) (.slice av l.length cv) l) ∧ l.length ≤ i ∧ Hid (∀ y ∈ l, GX wr (w.heap.size + 1 + 1) y) ∧ Hid (wr.cell? ⟨w.heap.size + 1, 0, none⟩ = some (.slice av l.length cv) ∧ wr.frozen? ⟨w.heap.size + 1, 0, none⟩ = false ∧ w.heap.size + 1 < wr.heap.size) ∧ Hid (wr.cell? ⟨w.heap.size, 0, none⟩ = some (.slice none 0 0) ∧ wr.frozen? ⟨w.heap.size, 0, none⟩ = false) ∧ Hid (Past g w wr) ∧ Hid (Cur wr g a len cap)) (fun iv _ => n - (intOf iv).toNat)
  case atStart => exact ⟨0, none, 0, [], Nat.zero_le _, rfl, OwnG.nil _ _, Nat.le_refl _, HG2, HX2, HR2, HP2, HC2⟩
  case round =>
    obtain ⟨i, av, cv, l, hi, rfl, HO, hL, HG, HX, HR, HP, HCr⟩ := hrel
    clear HX2 HR2 HP2 HC2 HG2
    by_cases hlt : i < n
    · have hltz : (i : Int) < (n : Int) := by omega
      have hxl := HX.out.2.2
      have hszp := HP.out.size
      have e3 : wr.drew.heap.size = wr.heap.size := rfl
      have hsz : w.heap.size + 1 + 1 ≤ wr.drew.heap.size := by omega
      have d0 : wr.drew.cell? ⟨w.heap.size + 1, 0, none⟩ = some (.slice av l.length cv) := HX.out.1
      have HCd : Hid (Cur wr.drew g a len cap) := HCr.out.below (Below.drew (Below.refl _ _))
      have PUT : Hid (∀ w7 (x : G1), Past g wr.drew w7 → GX w7 (w.heap.size + 1 + 1) x → Calls Tryz.prog 52 #[.slice av l.length cv, .agg (e12 x.t x.u x.v).toArray] w7 (PutG w7 (w.heap.size + 1 + 1) l x)) := fun w7 x hp hx => by
        have hp' : Past g wr w7 := (Past.of_below (Below.drew (Below.refl _ _))).trans hp
        exact l2put_any av cv l x w7 (w.heap.size + 1 + 1) (by omega) (HO.out.past hp' (by omega)) (Nat.le_trans hsz hp.size) (fun y hy => ((HG.out y hy).past hp' (by omega)).gt) hx.gt
      go_wp2_with fail
      refine wp_region_held_drew (S := fun w' => Kept (w.heap.size + 1) (some g) wr w') (by kernel_rfl) ?_ (fun hHeld => ?_)
      · exact Kept.drew0 _ _ _
      refine take_at (i := 0) 16 (v := ?v1) rfl rfl (by kernel_rfl) (by kernel_rfl) (by kernel_rfl) (fun _ _ _ h => h) (Or.inl ⟨by rfl, ?y1⟩) hHeld ?r1
      case y1 => (intro w' hSw; skip; go_simp; (try with_reducible rfl))
      try simp only [Act.put, List.setIfInBounds_toArray, List.set_cons_zero, List.set_cons_succ]
      refine take_at (i := 2) 18 (v := ?v2) rfl rfl (by kernel_rfl) (by kernel_rfl) (by kernel_rfl) (fun _ _ _ h => h) (Or.inl ⟨by rfl, ?y2⟩) hHeld ?r2
      case y2 => (intro w' hSw; skip; go_simp; (try with_reducible rfl))
      try simp only [Act.put, List.setIfInBounds_toArray, List.set_cons_zero, List.set_cons_succ]
      refine wpAnyH_ready (rs := [1, 3]) (by kernel_rfl) (by simp) ?_
      refine AllReadyH.cons rfl (fun K hK => ?_) (AllReadyH.cons rfl (fun K hK => ?_) AllReadyH.nil)
      · go_simp
        refine hK.out _ _ ?_ (fun hHeld => ?_)
        · exact Kept.drew0 _ _ _
        clear hK K
        try simp only [Act.put, List.setIfInBounds_toArray, List.set_cons_zero, List.set_cons_succ]
        refine wpAnyH_ready (rs := [3]) (by kernel_rfl) (by simp) ?_
        refine AllReadyH.cons rfl (fun K hK => ?_) AllReadyH.nil
        go_simp
        refine (TR _ HCd.out).mono ?_
        rintro e w7 ⟨⟨t, u, v7, bt, bu, bv, rfl, hS7, hD1, hD2, hD3⟩, hP7, hC7⟩
        have HP7 : Hid (Past g wr.drew w7) := hP7
        have HC7 : Hid (Cur w7 g a len cap) := hC7
        have HG7 : Hid (GX w7 (w.heap.size + 1 + 1) ⟨t, u, v7, bt, bu, bv⟩) := ⟨hD1.mono hsz (Nat.le_refl _) (Nat.le_refl _), hD2.mono hsz (Nat.le_refl _) (Nat.le_refl _), hD3.mono hsz (Nat.le_refl _) (Nat.le_refl _), hS7⟩
        have HK7 : Hid (Kept (w.heap.size + 1) (some g) wr w7) := kept_past HP7.out
        clear hS7 hD1 hD2 hD3 hP7 hC7
        have q0 : w7.cell? ⟨w.heap.size + 1, 0, none⟩ = some (.slice av l.length cv) := (HP7.out.cell (p := ⟨w.heap.size + 1, 0, none⟩) (by show w.heap.size + 1 < _; omega) (by show w.heap.size + 1 ≠ g; omega)).trans d0
        simp only [e12]
        go_wp2_with fail
        refine hK.out _ _ ?_ (fun hHeld => ?_)
        · exact HK7.out
        clear hK K
        try simp only [Act.put, List.setIfInBounds_toArray, List.set_cons_zero, List.set_cons_succ]
        refine wpAnyH_ready (rs := [4]) (by kernel_rfl) (by simp) ?_
        refine AllReadyH.cons rfl (fun K hK => ?_) AllReadyH.nil
        go_simp
        have hPUT := PUT.out w7 ⟨t, u, v7, bt, bu, bv⟩ HP7.out HG7.out
        simp only [e12] at hPUT
        refine hPUT.mono ?_
        rintro e w8 ⟨v8, l8, rfl, hO8, hl8, hm8, hb8⟩
        have HB8 : Hid (Below w7.heap.size w7 w8) := hb8
        have HO8 : Hid (OwnG w8 (w.heap.size + 1 + 1) v8 l8) := hO8
        have HM8 : Hid (∀ y ∈ l8, y ∈ l ∨ y = ⟨t, u, v7, bt, bu, bv⟩) := hm8
        have HL8 : Hid (l8.length ≤ l.length + 1) := hl8
        have hone : v8.oneCell' = true := hO8.one
        have q1 : w8.cell? ⟨w.heap.size + 1, 0, none⟩ = some (.slice av l.length cv) := (HB8.out.cell (p := ⟨w.heap.size + 1, 0, none⟩) (by show w.heap.size + 1 < _; have := HP7.out.size; have h2 : wr.drew.heap.size = wr.heap.size := rfl; omega)).trans q0
        have hPwr : Past g wr w8 := ((Past.of_below (Below.drew (Below.refl _ _))).trans HP7.out).trans (Past.of_below HB8.out)
        have q2 : w8.frozen? ⟨w.heap.size + 1, 0, none⟩ = false := (hPwr.frozen (p := ⟨w.heap.size + 1, 0, none⟩) (by show w.heap.size + 1 < _; omega) (by show w.heap.size + 1 ≠ g; omega)).trans HX.out.2.1
        clear hO8 hm8 hb8 hl8 hPUT
        obtain ⟨a8, n8, c8, rfl⟩ := HO8.out.slice
        obtain rfl := HO8.out.len
        go_wp2_with fail
        refine hK.out _ _ ?_ (fun hHeld => ?_)
        · exact HK7.out.below HB8.out
        clear hK K
        try simp only [Act.put, List.setIfInBounds_toArray, List.set_cons_zero, List.set_cons_succ]
        refine take_at (i := 5) 21 (v := ?v3) rfl rfl (by kernel_rfl) (by kernel_rfl) (by kernel_rfl) (fun _ _ _ h => h) (Or.inl ⟨by rfl, ?y3⟩) hHeld ?r3
        case y3 => (intro w' hSw; skip; go_simp; (try with_reducible rfl))
        try simp only [Act.put, List.setIfInBounds_toArray, List.set_cons_zero, List.set_cons_succ]
        refine wpAnyH_ready (rs := [6]) (by kernel_rfl) (by simp) ?_
        refine AllReadyH.cons rfl (fun K hK => ?_) AllReadyH.nil
        go_simp
        refine hK.out _ _ ?_ (fun hHeld => ?_)
        · exact (HK7.out.below HB8.out).set 0 _
        clear hK K
        try simp only [Act.put, List.setIfInBounds_toArray, List.set_cons_zero, List.set_cons_succ]
        refine wpAnyH_done (by kernel_rfl) ?_ _
        clear hHeld
        have hQ : Past (w.heap.size + 1) w8 (w8.setCell ⟨w.heap.size + 1, 0, none⟩ (.slice a8 l8.length c8)) := (Past.refl (w.heap.size + 1) w8).set 0 _
        have HO9 : Hid (OwnG (w8.setCell ⟨w.heap.size + 1, 0, none⟩ (.slice a8 l8.length c8)) (w.heap.size + 1 + 1) (.slice a8 l8.length c8) l8) := HO8.out.past hQ (by omega)
        have HP9 : Hid (Past g w (w8.setCell ⟨w.heap.size + 1, 0, none⟩ (.slice a8 l8.length c8))) := past_other (HP.out.trans hPwr) hQ (by omega)
        have HC9 : Hid (Cur (w8.setCell ⟨w.heap.size + 1, 0, none⟩ (.slice a8 l8.length c8)) g a len cap) := HC.out.glue (HC7.out.below HB8.out) HP9.out (hQ.block g (HC7.out.below HB8.out).lt (by omega))
        have HG9 : Hid (∀ y ∈ l8, GX (w8.setCell ⟨w.heap.size + 1, 0, none⟩ (.slice a8 l8.length c8)) (w.heap.size + 1 + 1) y) := fun y hy => by
          rcases HM8.out y hy with h | h
          · exact ((HG.out y h).past hPwr (by omega)).past hQ (by omega)
          · rw [h]; exact (HG7.out.below HB8.out).past hQ (by omega)
        have HX9 : Hid ((w8.setCell ⟨w.heap.size + 1, 0, none⟩ (.slice a8 l8.length c8)).cell? ⟨w.heap.size + 1, 0, none⟩ = some (.slice a8 l8.length c8) ∧ (w8.setCell ⟨w.heap.size + 1, 0, none⟩ (.slice a8 l8.length c8)).frozen? ⟨w.heap.size + 1, 0, none⟩ = false ∧ w.heap.size + 1 < (w8.setCell ⟨w.heap.size + 1, 0, none⟩ (.slice a8 l8.length c8)).heap.size) := ⟨set_same q1, by rw [World.frozen?_setCell]; exact q2, by simp; have h1 := HP7.out.size; have h2 := HB8.out.size; have h3 : wr.drew.heap.size = wr.heap.size := rfl; omega⟩
        have HR9 : Hid ((w8.setCell ⟨w.heap.size + 1, 0, none⟩ (.slice a8 l8.length c8)).cell? ⟨w.heap.size, 0, none⟩ = some (.slice none 0 0) ∧ (w8.setCell ⟨w.heap.size + 1, 0, none⟩ (.slice a8 l8.length c8)).frozen? ⟨w.heap.size, 0, none⟩ = false) := ⟨(hQ.cell (p := ⟨w.heap.size, 0, none⟩) (by show w.heap.size < _; have h1 := hPwr.size; omega) (by show w.heap.size ≠ w.heap.size + 1; omega)).trans ((hPwr.cell (p := ⟨w.heap.size, 0, none⟩) (by show w.heap.size < _; omega) (by show w.heap.size ≠ g; omega)).trans HR.out.1), (hQ.frozen (p := ⟨w.heap.size, 0, none⟩) (by show w.heap.size < _; have h1 := hPwr.size; omega) (by show w.heap.size ≠ w.heap.size + 1; omega)).trans ((hPwr.frozen (p := ⟨w.heap.size, 0, none⟩) (by show w.heap.size < _; omega) (by show w.heap.size ≠ g; omega)).trans HR.out.2)⟩
        generalize (w8.setCell ⟨w.heap.size + 1, 0, none⟩ (.slice a8 l8.length c8)) = w9 at *
        go_wp2_with fail
        go_roundw
        case rel => exact ⟨i + 1, a8, c8, l8, by omega, by go_num, HO9, (show l8.length ≤ i + 1 by have h1 := HL8.out; omega), HG9, HX9, HR9, HP9, HC9⟩
        case measure => simp [intOf]; omega
      · go_simp
        refine (TR _ HCd.out).mono ?_
        rintro e w7 ⟨⟨t, u, v7, bt, bu, bv, rfl, hS7, hD1, hD2, hD3⟩, hP7, hC7⟩
        have HP7 : Hid (Past g wr.drew w7) := hP7
        have HC7 : Hid (Cur w7 g a len cap) := hC7
        have HG7 : Hid (GX w7 (w.heap.size + 1 + 1) ⟨t, u, v7, bt, bu, bv⟩) := ⟨hD1.mono hsz (Nat.le_refl _) (Nat.le_refl _), hD2.mono hsz (Nat.le_refl _) (Nat.le_refl _), hD3.mono hsz (Nat.le_refl _) (Nat.le_refl _), hS7⟩
        have HK7 : Hid (Kept (w.heap.size + 1) (some g) wr w7) := kept_past HP7.out
        clear hS7 hD1 hD2 hD3 hP7 hC7
        have q0 : w7.cell? ⟨w.heap.size + 1, 0, none⟩ = some (.slice av l.length cv) := (HP7.out.cell (p := ⟨w.heap.size + 1, 0, none⟩) (by show w.heap.size + 1 < _; omega) (by show w.heap.size + 1 ≠ g; omega)).trans d0
        simp only [e12]
        go_wp2_with fail
        refine hK.out _ _ ?_ (fun hHeld => ?_)
        · exact HK7.out
        clear hK K
        try simp only [Act.put, List.setIfInBounds_toArray, List.set_cons_zero, List.set_cons_succ]
        refine wpAnyH_ready (rs := [1]) (by kernel_rfl) (by simp) ?_
        refine AllReadyH.cons rfl (fun K hK => ?_) AllReadyH.nil
        go_simp
        refine hK.out _ _ ?_ (fun hHeld => ?_)
        · exact HK7.out
        clear hK K
        try simp only [Act.put, List.setIfInBounds_toArray, List.set_cons_zero, List.set_cons_succ]
        refine wpAnyH_ready (rs := [4]) (by kernel_rfl) (by simp) ?_
        refine AllReadyH.cons rfl (fun K hK => ?_) AllReadyH.nil
        go_simp
        have hPUT := PUT.out w7 ⟨t, u, v7, bt, bu, bv⟩ HP7.out HG7.out
        simp only [e12] at hPUT
        refine hPUT.mono ?_
        rintro e w8 ⟨v8, l8, rfl, hO8, hl8, hm8, hb8⟩
        have HB8 : Hid (Below w7.heap.size w7 w8) := hb8
        have HO8 : Hid (OwnG w8 (w.heap.size + 1 + 1) v8 l8) := hO8
        have HM8 : Hid (∀ y ∈ l8, y ∈ l ∨ y = ⟨t, u, v7, bt, bu, bv⟩) := hm8
        have HL8 : Hid (l8.length ≤ l.length + 1) := hl8
        have hone : v8.oneCell' = true := hO8.one
        have q1 : w8.cell? ⟨w.heap.size + 1, 0, none⟩ = some (.slice av l.length cv) := (HB8.out.cell (p := ⟨w.heap.size + 1, 0, none⟩) (by show w.heap.size + 1 < _; have := HP7.out.size; have h2 : wr.drew.heap.size = wr.heap.size := rfl; omega)).trans q0
        have hPwr : Past g wr w8 := ((Past.of_below (Below.drew (Below.refl _ _))).trans HP7.out).trans (Past.of_below HB8.out)
        have q2 : w8.frozen? ⟨w.heap.size + 1, 0, none⟩ = false := (hPwr.frozen (p := ⟨w.heap.size + 1, 0, none⟩) (by show w.heap.size + 1 < _; omega) (by show w.heap.size + 1 ≠ g; omega)).trans HX.out.2.1
        clear hO8 hm8 hb8 hl8 hPUT
        obtain ⟨a8, n8, c8, rfl⟩ := HO8.out.slice
        obtain rfl := HO8.out.len
        go_wp2_with fail
        refine hK.out _ _ ?_ (fun hHeld => ?_)
        · exact HK7.out.below HB8.out
        clear hK K
        try simp only [Act.put, List.setIfInBounds_toArray, List.set_cons_zero, List.set_cons_succ]
        refine take_at (i := 5) 21 (v := ?v4) rfl rfl (by kernel_rfl) (by kernel_rfl) (by kernel_rfl) (fun _ _ _ h => h) (Or.inl ⟨by rfl, ?y4⟩) hHeld ?r4
        case y4 => (intro w' hSw; skip; go_simp; (try with_reducible rfl))
        try simp only [Act.put, List.setIfInBounds_toArray, List.set_cons_zero, List.set_cons_succ]
        refine wpAnyH_ready (rs := [6]) (by kernel_rfl) (by simp) ?_
        refine AllReadyH.cons rfl (fun K hK => ?_) AllReadyH.nil
        go_simp
        refine hK.out _ _ ?_ (fun hHeld => ?_)
        · exact (HK7.out.below HB8.out).set 0 _
        clear hK K
        try simp only [Act.put, List.setIfInBounds_toArray, List.set_cons_zero, List.set_cons_succ]
        refine wpAnyH_done (by kernel_rfl) ?_ _
        clear hHeld
        have hQ : Past (w.heap.size + 1) w8 (w8.setCell ⟨w.heap.size + 1, 0, none⟩ (.slice a8 l8.length c8)) := (Past.refl (w.heap.size + 1) w8).set 0 _
        have HO9 : Hid (OwnG (w8.setCell ⟨w.heap.size + 1, 0, none⟩ (.slice a8 l8.length c8)) (w.heap.size + 1 + 1) (.slice a8 l8.length c8) l8) := HO8.out.past hQ (by omega)
        have HP9 : Hid (Past g w (w8.setCell ⟨w.heap.size + 1, 0, none⟩ (.slice a8 l8.length c8))) := past_other (HP.out.trans hPwr) hQ (by omega)
        have HC9 : Hid (Cur (w8.setCell ⟨w.heap.size + 1, 0, none⟩ (.slice a8 l8.length c8)) g a len cap) := HC.out.glue (HC7.out.below HB8.out) HP9.out (hQ.block g (HC7.out.below HB8.out).lt (by omega))
        have HG9 : Hid (∀ y ∈ l8, GX (w8.setCell ⟨w.heap.size + 1, 0, none⟩ (.slice a8 l8.length c8)) (w.heap.size + 1 + 1) y) := fun y hy => by
          rcases HM8.out y hy with h | h
          · exact ((HG.out y h).past hPwr (by omega)).past hQ (by omega)
          · rw [h]; exact (HG7.out.below HB8.out).past hQ (by omega)
        have HX9 : Hid ((w8.setCell ⟨w.heap.size + 1, 0, none⟩ (.slice a8 l8.length c8)).cell? ⟨w.heap.size + 1, 0, none⟩ = some (.slice a8 l8.length c8) ∧ (w8.setCell ⟨w.heap.size + 1, 0, none⟩ (.slice a8 l8.length c8)).frozen? ⟨w.heap.size + 1, 0, none⟩ = false ∧ w.heap.size + 1 < (w8.setCell ⟨w.heap.size + 1, 0, none⟩ (.slice a8 l8.length c8)).heap.size) := ⟨set_same q1, by rw [World.frozen?_setCell]; exact q2, by simp; have h1 := HP7.out.size; have h2 := HB8.out.size; have h3 : wr.drew.heap.size = wr.heap.size := rfl; omega⟩
        have HR9 : Hid ((w8.setCell ⟨w.heap.size + 1, 0, none⟩ (.slice a8 l8.length c8)).cell? ⟨w.heap.size, 0, none⟩ = some (.slice none 0 0) ∧ (w8.setCell ⟨w.heap.size + 1, 0, none⟩ (.slice a8 l8.length c8)).frozen? ⟨w.heap.size, 0, none⟩ = false) := ⟨(hQ.cell (p := ⟨w.heap.size, 0, none⟩) (by show w.heap.size < _; have h1 := hPwr.size; omega) (by show w.heap.size ≠ w.heap.size + 1; omega)).trans ((hPwr.cell (p := ⟨w.heap.size, 0, none⟩) (by show w.heap.size < _; omega) (by show w.heap.size ≠ g; omega)).trans HR.out.1), (hQ.frozen (p := ⟨w.heap.size, 0, none⟩) (by show w.heap.size < _; have h1 := hPwr.size; omega) (by show w.heap.size ≠ w.heap.size + 1; omega)).trans ((hPwr.frozen (p := ⟨w.heap.size, 0, none⟩) (by show w.heap.size < _; omega) (by show w.heap.size ≠ g; omega)).trans HR.out.2)⟩
        generalize (w8.setCell ⟨w.heap.size + 1, 0, none⟩ (.slice a8 l8.length c8)) = w9 at *
        go_wp2_with fail
        go_roundw
        case rel => exact ⟨i + 1, a8, c8, l8, by omega, by go_num, HO9, (show l8.length ≤ i + 1 by have h1 := HL8.out; omega), HG9, HX9, HR9, HP9, HC9⟩
        case measure => simp [intOf]; omega
    · have heq : i = n := by omega
      subst heq
      have x0 := HX.out.1
      have x1 := HR.out.1
      have x2 := HR.out.2
      go_wp2_with fail
      have hy := HX.out.2.2
      have y0 := set_same x1 (v := .slice av l.length cv)
      refine bodyPost_ret (v := .agg #[.slice av l.length cv]) (by simp [results, Tryz.results75, go_sem, y0]) rfl ?_
      have hQ : Past w.heap.size wr (wr.setCell ⟨w.heap.size, 0, none⟩ (.slice av l.length cv)) := (Past.refl w.heap.size wr).set 0 _
      exact ⟨_, l, rfl, (HO.out.past hQ (by omega)).base (by omega), by omega, fun y hy => ((HG.out y hy).past hQ (by omega)).mono (by omega), past_other HP.out hQ (by omega), HC.out.glue HCr.out (past_other HP.out hQ (by omega)) (hQ.block g HCr.out.lt (by omega))⟩
end Go.Proofs.YtoclingolfdfeaaGreatDoor

/- DrwK -/
namespace Go.Proofs.YtoclingolfdfeaaGreatDoor
open Go.RowKit Go.Deep

/-- What a draw of a term that may be answers. -/
def TermResK (q : Int → Prop) (B : Nat) (e : Ending) (w' : World) : Prop := ∃ (k n s : Int) (a : Option Addr) (len cap : Nat) (bs : List Int), e = .returned (.agg #[.int .i64 k, .slice a len cap, .int .i64 n, .int .i64 s]) ∧ (-9223372036854775808 ≤ n ∧ n ≤ 9223372036854775807) ∧ (0 ≤ s ∧ s ≤ 6) ∧ len ≤ 100 ∧ Tx w' B a len cap bs ∧ termOk k bs n s = true ∧ q k
def TermDrawnK (g : Nat) (a : Option Addr) (len cap : Nat) (w : World) (e : Ending) (w' : World) : Prop := TermResK (fun _ => True) w.heap.size e w' ∧ Past g w w' ∧ Cur w' g a len cap
theorem numP_may (q : Int) (z : Nat) (h : tK (numP q z) = 3) : termOk 3 [] (tN (numP q z)) (tS (numP q z)) = true := by
  unfold tK at h
  unfold tN tS
  by_cases h2 : numOk (numP q z).1 (numP q z).2 = true
  · rw [if_pos h2, if_pos h2]
    simpa [termOk] using h2
  · rw [if_neg h2] at h
    omega
theorem int_may (n : Int) (h : -1000 ≤ n ∧ n ≤ 1000) : termOk 3 [] n 0 = true := by
  simp [termOk, numOk]
  omega
theorem blank_may (n : Nat) (h : n ≤ 1000) : termOk 1 [] n 0 = true := by
  simp [termOk]
  omega
theorem l1name_may (s : ByteArray) (w : World) (hs : s.size ≤ 100) (hok : termOk 0 (numsOf s) 0 0 = true) :
    Calls Tryz.prog 85 #[.string s] w fun e w' => TermResK (fun k => k = 0) w.heap.size e w' ∧ Below w.heap.size w w' := by
  have HOK : Hid (termOk 0 (numsOf s) 0 0 = true) := hok
  clear hok
  have hcv := fun w => Lib.run_convert_string_bytes (P := Tryz.prog) w 9 22 5 s Tryz.underlying9 Tryz.underlying22 Tryz.underlying5
  have hW : ∀ T, Own4 (w.alloc (.cells #[.int .i64 0, .slice none 0 0, .int .i64 0, .int .i64 0] T)) w.heap.size (.int .i64 0) (.slice none 0 0) (.int .i64 0) (.int .i64 0) := fun T => Own4.at w _ _ _ _ _ T rfl
  have hb1 := bytesWorld_below (w.alloc (.cells #[.int .i64 0, .slice none 0 0, .int .i64 0, .int .i64 0] 24)) 5 s
  have hT := Tx.conv (w.alloc (.cells #[.int .i64 0, .slice none 0 0, .int .i64 0, .int .i64 0] 24)) s 5 (by omega)
  have hO := (hW 24).below hb1
  clear hW
  obtain ⟨⟨o0, o1, o2, o3, o4⟩, f0, f1, f2, f3⟩ := id hO
  have HT : Hid (Tx (Lib.bytesWorld (w.alloc (.cells #[.int .i64 0, .slice none 0 0, .int .i64 0, .int .i64 0] 24)) 5 s) (w.alloc (.cells #[.int .i64 0, .slice none 0 0, .int .i64 0, .int .i64 0] 24)).heap.size (some ⟨(w.alloc (.cells #[.int .i64 0, .slice none 0 0, .int .i64 0, .int .i64 0] 24)).heap.size, 0, none⟩) s.size (grownCap (w.alloc (.cells #[.int .i64 0, .slice none 0 0, .int .i64 0, .int .i64 0] 24)) s.size 0 5) (numsOf s)) := hT
  have HB : Hid (Below w.heap.size w (Lib.bytesWorld (w.alloc (.cells #[.int .i64 0, .slice none 0 0, .int .i64 0, .int .i64 0] 24)) 5 s)) := bl_trans (bl_a _) hb1
  clear hT hb1 hO
  go_enter Tryz.func85, Tryz.ntmps85
  go_wp2
  refine bodyPost_ret (v := .agg #[.int .i64 0, .slice (some ⟨w.heap.size + 1, 0, none⟩) s.size (grownCap (w.alloc (.cells #[.int .i64 0, .slice none 0 0, .int .i64 0, .int .i64 0] 24)) s.size 0 5), .int .i64 0, .int .i64 0]) (by simp [results, Tryz.results85, go_sem, *]) rfl ⟨⟨0, 0, 0, _, _, _, numsOf s, rfl, by omega, by omega, hs, ?_, HOK.out, rfl⟩, ?_⟩
  · have hP := Past.set (Past.set (Past.set (Past.set (Past.refl w.heap.size (Lib.bytesWorld (w.alloc (.cells #[.int .i64 0, .slice none 0 0, .int .i64 0, .int .i64 0] 24)) 5 s)) 0 (.int .i64 0)) 1 (.slice (some ⟨w.heap.size + 1, 0, none⟩) s.size (grownCap (w.alloc (.cells #[.int .i64 0, .slice none 0 0, .int .i64 0, .int .i64 0] 24)) s.size 0 5))) 2 (.int .i64 0)) 3 (.int .i64 0)
    have := (HT.out.past hP (by simp)).mono (B' := w.heap.size) (by simp)
    simpa using this
  · exact bl_set (bl_set (bl_set (bl_set HB.out (Nat.le_refl _) _) (Nat.le_refl _) _) (Nat.le_refl _) _) (Nat.le_refl _) _
theorem l1int_may (n : Int) (w : World) (h : -1000 ≤ n ∧ n ≤ 1000) :
    Calls Tryz.prog 87 #[.int .i64 n] w fun e w' => TermResK (fun _ => True) w.heap.size e w' ∧ Below w.heap.size w w' := by
  go_enter Tryz.func87, Tryz.ntmps87
  go_wp2
  refine bodyPost_ret (v := .agg #[.int .i64 3, .slice none 0 0, .int .i64 n, .int .i64 0]) (by simp [results, Tryz.results87, go_sem]) rfl ⟨⟨3, n, 0, none, 0, 0, [], rfl, by omega, by omega, by omega, Tx.nil _ _, int_may n h, trivial⟩, bl_a _⟩
/-- The end of a draw: the answer is laid into block r and given back. -/
theorem term_endK {g : Nat} {a : Option Addr} {len cap : Nat} {w w3 : World} {k n s : Int} {ta : Option Addr} {tl tc : Nat} {bs : List Int} {r B : Nat} (hC : Cur w g a len cap) (hP : Past g w w3) (hC3 : Cur w3 g a len cap) (hT : Tx w3 B ta tl tc bs) (hB : r < B) (hr : w.heap.size ≤ r) (hrg : g ≠ r)
    (hn : -9223372036854775808 ≤ n ∧ n ≤ 9223372036854775807) (hs : 0 ≤ s ∧ s ≤ 6) (hl : tl ≤ 100) (hok : termOk k bs n s = true) :
    TermDrawnK g a len cap w (.returned (.agg #[.int .i64 k, .slice ta tl tc, .int .i64 n, .int .i64 s])) ((((w3.setCell ⟨r, 0, none⟩ (.int .i64 k)).setCell ⟨r, 1, none⟩ (.slice ta tl tc)).setCell ⟨r, 2, none⟩ (.int .i64 n)).setCell ⟨r, 3, none⟩ (.int .i64 s)) := by
  have hQ : Past r w3 ((((w3.setCell ⟨r, 0, none⟩ (.int .i64 k)).setCell ⟨r, 1, none⟩ (.slice ta tl tc)).setCell ⟨r, 2, none⟩ (.int .i64 n)).setCell ⟨r, 3, none⟩ (.int .i64 s)) := ((((Past.refl r w3).set 0 _).set 1 _).set 2 _).set 3 _
  have hP' : Past g w ((((w3.setCell ⟨r, 0, none⟩ (.int .i64 k)).setCell ⟨r, 1, none⟩ (.slice ta tl tc)).setCell ⟨r, 2, none⟩ (.int .i64 n)).setCell ⟨r, 3, none⟩ (.int .i64 s)) := (((hP.set_new (p := ⟨r, 0, none⟩) hr _).set_new (p := ⟨r, 1, none⟩) hr _).set_new (p := ⟨r, 2, none⟩) hr _).set_new (p := ⟨r, 3, none⟩) hr _
  exact ⟨⟨k, n, s, ta, tl, tc, bs, rfl, hn, hs, hl, (hT.past hQ hB).mono (by omega), hok, trivial⟩, hP', hC.glue hC3 hP' (hQ.block g hC3.lt hrg)⟩

set_option maxRecDepth 20000 in
set_option maxHeartbeats 2000000 in
theorem l1term_may (g : Nat) (a : Option Addr) (len cap : Nat) (w : World) (hlen : len ≤ 9223372036854775807) (hC : Cur w g a len cap) :
    Calls Tryz.prog 57 #[.pointer (some ⟨g, 0, none⟩)] w fun e w' => TermDrawnK g a len cap w e w' := by
  have B := fun w (n : Nat) (h : Cur w g a len cap) (h1 : 1 ≤ n) (h2 : n ≤ 256) => l1Below_any g a len cap n w hlen h h1 h2
  have O := fun w (n : Nat) (h : Cur w g a len cap) (h1 : 1 ≤ n) (h2 : n ≤ 256) => l1Once_any g a len cap n w hlen h h1 h2
  have hgl := hC.lt
  have HC : Hid (Cur w g a len cap) := hC
  clear hC
  go_enter Tryz.func57, Tryz.ntmps57
  go_wp2_with fail
  refine (B _ 6 (HC.out.below (bl_a _)) (by omega) (by omega)).mono ?_
  rintro e w1 ⟨x, rfl, hx, hP1, hC1⟩
  have hR1 := (Own4.at w w.heap.size (.int .i64 0) (.slice none 0 0) (.int .i64 0) (.int .i64 0) 24 rfl)
  have hR : Own4 w1 w.heap.size (.int .i64 0) (.slice none 0 0) (.int .i64 0) (.int .i64 0) := hR1.past hP1 (by omega)
  have hP := (Past.of_below (g := g) (bl_a (w := w) (.cells #[.int .i64 0, .slice none 0 0, .int .i64 0, .int .i64 0] 24))).trans hP1
  have hs1 := hP1.size
  simp at hs1
  clear hR1 hP1
  by_cases hx2 : x = 2
  · subst hx2
    go_wp2_with fail
    refine (B _ 4 hC1 (by omega) (by omega)).mono ?_
    rintro e w2 ⟨y, rfl, hy, hP2, hC2⟩
    have hR2 := hR.past hP2 (by omega)
    replace hP := hP.trans hP2
    have HP : Hid (Past g w w2) := hP
    have HC2 : Hid (Cur w2 g a len cap) := hC2
    obtain ⟨⟨o0, o1, o2, o3, o4⟩, f0, f1, f2, f3⟩ := id hR2
    clear B O hC1 hR hP hP2 hC2 hR2
    go_wp2
    refine bodyPost_ret (v := .agg #[.int .i64 1, .slice none 0 0, .int .i64 y, .int .i64 0]) (by simp [results, Tryz.results57, go_sem, *]) rfl ?_
    exact term_endK HC.out HP.out HC2.out (Tx.nil w2 (w.heap.size + 1)) (by omega) (Nat.le_refl _) (by omega) (by omega) (by omega) (by omega) (blank_may y (by omega))
  by_cases hx3 : x ≤ 1
  · have hxx : x = 0 ∨ x = 1 := by omega
    rcases hxx with rfl | rfl
    · go_wp2_with fail
      refine (B _ 6 (hC1.below (bl_a _)) (by omega) (by omega)).mono ?_
      rintro e w2 ⟨y, rfl, hy, hP2, hC2⟩
      have hcl := hP2.cell (p := ⟨w1.heap.size, y, none⟩) (by simp) (show w1.heap.size ≠ g by omega)
      have hs2 := hP2.size
      simp at hs2
      have hR2 := (hR.below (bl_a _)).past hP2 (by omega)
      replace hP := (hP.trans (Past.of_below (bl_a _))).trans hP2
      obtain ⟨t, ht, hct⟩ : ∃ t : ByteArray, (t.size ≤ 100 ∧ termOk 0 (numsOf t) 0 0 = true) ∧ w2.cell? ⟨w1.heap.size, y, none⟩ = some (.string t) := by
        have hyy : y = 0 ∨ y = 1 ∨ y = 2 ∨ y = 3 ∨ y = 4 ∨ y = 5 := by omega
        rcases hyy with rfl | rfl | rfl | rfl | rfl | rfl
        all_goals
          simp [go_sem] at hcl
          exact ⟨_, by decide, hcl⟩
      have HP : Hid (Past g w w2) := hP
      have HC2 : Hid (Cur w2 g a len cap) := hC2
      clear B O hC1 hP2 hR hcl hP hC2
      go_wp2_with fail
      refine (l1name_may t _ ht.1 ht.2).mono ?_
      rintro e w3 ⟨⟨k, n, s, ta, tl, tc, bs, rfl, hn, hsc, htl, hT, hok, hkq⟩, hb3⟩
      have HOK : Hid (termOk k bs n s = true) := hok
      clear hok hkq
      have hR3 := hR2.below hb3
      have HP3 : Hid (Past g w w3) := HP.out.trans (Past.of_below hb3)
      have HC3 : Hid (Cur w3 g a len cap) := HC2.out.below hb3
      have HT : Hid (Tx w3 w2.heap.size ta tl tc bs) := hT
      obtain ⟨⟨o0, o1, o2, o3, o4⟩, f0, f1, f2, f3⟩ := id hR3
      clear hR2 hR3 hT hb3 HP HC2 hct
      go_wp2
      refine bodyPost_ret (v := .agg #[.int .i64 k, .slice ta tl tc, .int .i64 n, .int .i64 s]) (by simp [results, Tryz.results57, go_sem, *]) rfl ?_
      exact term_endK HC.out HP3.out HC3.out HT.out (by omega) (Nat.le_refl _) (by omega) hn hsc htl HOK.out
    · go_wp2_with fail
      refine (B _ 6 (hC1.below (bl_a _)) (by omega) (by omega)).mono ?_
      rintro e w2 ⟨y, rfl, hy, hP2, hC2⟩
      have hcl := hP2.cell (p := ⟨w1.heap.size, y, none⟩) (by simp) (show w1.heap.size ≠ g by omega)
      have hs2 := hP2.size
      simp at hs2
      have hR2 := (hR.below (bl_a _)).past hP2 (by omega)
      replace hP := (hP.trans (Past.of_below (bl_a _))).trans hP2
      obtain ⟨t, ht, hct⟩ : ∃ t : ByteArray, (t.size ≤ 100 ∧ termOk 0 (numsOf t) 0 0 = true) ∧ w2.cell? ⟨w1.heap.size, y, none⟩ = some (.string t) := by
        have hyy : y = 0 ∨ y = 1 ∨ y = 2 ∨ y = 3 ∨ y = 4 ∨ y = 5 := by omega
        rcases hyy with rfl | rfl | rfl | rfl | rfl | rfl
        all_goals
          simp [go_sem] at hcl
          exact ⟨_, by decide, hcl⟩
      have HP : Hid (Past g w w2) := hP
      have HC2 : Hid (Cur w2 g a len cap) := hC2
      clear B O hC1 hP2 hR hcl hP hC2
      go_wp2_with fail
      refine (l1name_may t _ ht.1 ht.2).mono ?_
      rintro e w3 ⟨⟨k, n, s, ta, tl, tc, bs, rfl, hn, hsc, htl, hT, hok, hkq⟩, hb3⟩
      have HOK : Hid (termOk k bs n s = true) := hok
      clear hok hkq
      have hR3 := hR2.below hb3
      have HP3 : Hid (Past g w w3) := HP.out.trans (Past.of_below hb3)
      have HC3 : Hid (Cur w3 g a len cap) := HC2.out.below hb3
      have HT : Hid (Tx w3 w2.heap.size ta tl tc bs) := hT
      obtain ⟨⟨o0, o1, o2, o3, o4⟩, f0, f1, f2, f3⟩ := id hR3
      clear hR2 hR3 hT hb3 HP HC2 hct
      go_wp2
      refine bodyPost_ret (v := .agg #[.int .i64 k, .slice ta tl tc, .int .i64 n, .int .i64 s]) (by simp [results, Tryz.results57, go_sem, *]) rfl ?_
      exact term_endK HC.out HP3.out HC3.out HT.out (by omega) (Nat.le_refl _) (by omega) hn hsc htl HOK.out
  by_cases hx4 : x = 3
  · subst hx4
    go_wp2_with fail
    refine (B _ 6 (hC1.below (bl_a _)) (by omega) (by omega)).mono ?_
    rintro e w2 ⟨y, rfl, hy, hP2, hC2⟩
    have hcl := hP2.cell (p := ⟨w1.heap.size, y, none⟩) (by simp) (show w1.heap.size ≠ g by omega)
    have hs2 := hP2.size
    simp at hs2
    have hR2 := (hR.below (bl_a _)).past hP2 (by omega)
    replace hP := (hP.trans (Past.of_below (bl_a _))).trans hP2
    obtain ⟨t, ht, hct⟩ : ∃ t : ByteArray, (t.size ≤ 100 ∧ termOk 2 (numsOf t) 0 0 = true) ∧ w2.cell? ⟨w1.heap.size, y, none⟩ = some (.string t) := by
      have hyy : y = 0 ∨ y = 1 ∨ y = 2 ∨ y = 3 ∨ y = 4 ∨ y = 5 := by omega
      rcases hyy with rfl | rfl | rfl | rfl | rfl | rfl
      all_goals
        simp [go_sem] at hcl
        exact ⟨_, by decide, hcl⟩
    have HP : Hid (Past g w w2) := hP
    have HC2 : Hid (Cur w2 g a len cap) := hC2
    clear B O hC1 hP2 hR hcl hP hC2
    have hcv := fun w => Lib.run_convert_string_bytes (P := Tryz.prog) w 9 22 5 t Tryz.underlying9 Tryz.underlying22 Tryz.underlying5
    have hb3 := bytesWorld_below w2 5 t
    have hR3 := hR2.below hb3
    have HP3 : Hid (Past g w (Lib.bytesWorld w2 5 t)) := HP.out.trans (Past.of_below hb3)
    have HC3 : Hid (Cur (Lib.bytesWorld w2 5 t) g a len cap) := HC2.out.below hb3
    have HT : Hid (Tx (Lib.bytesWorld w2 5 t) w2.heap.size (some ⟨w2.heap.size, 0, none⟩) t.size (grownCap w2 t.size 0 5) (numsOf t)) := Tx.conv w2 t 5 (by have := ht.1; omega)
    obtain ⟨⟨o0, o1, o2, o3, o4⟩, f0, f1, f2, f3⟩ := id hR3
    clear hR2 hR3 hb3 HP HC2
    go_wp2
    refine bodyPost_ret (v := .agg #[.int .i64 2, .slice (some ⟨w2.heap.size, 0, none⟩) t.size (grownCap w2 t.size 0 5), .int .i64 0, .int .i64 0]) (by simp [results, Tryz.results57, go_sem, *]) rfl ?_
    exact term_endK HC.out HP3.out HC3.out HT.out (by omega) (Nat.le_refl _) (by omega) (by omega) (by omega) ht.1 ht.2
  have PI := fun w (lb n : Nat) (L : Nat → Int) (h : Cur w g a len cap) h1 h2 h3 h4 h5 => l1PickInt_any g lb a len cap n L w hlen h h1 h2 h3 h4 h5
  have hxx : x = 4 ∨ x = 5 := by omega
  have e0 : ((x : Int) == 0) = false := by simp; omega
  have e1 : ((x : Int) == 1) = false := by simp; omega
  have e2 : ((x : Int) == 2) = false := by simp; omega
  have e3 : ((x : Int) == 3) = false := by simp; omega
  go_wp2_with fail
  refine (O _ 3 hC1 (by omega) (by omega)).mono ?_
  rintro e w2 ⟨p, rfl, hP2, hC2⟩
  have hR2 := hR.past hP2 (by omega)
  have hs2 := hP2.size
  have HP2 : Hid (Past g w w2) := hP.trans hP2
  clear hC1 hR hP hP2 hxx
  cases p
  · have hRq := hR2
    have HPq := HP2
    have HCq : Hid (Cur w2 g a len cap) := hC2
    clear hR2 HP2 hC2 PI
    go_wp2_with fail
    refine (B _ 7 HCq.out (by omega) (by omega)).mono ?_
    rintro e w5 ⟨z, rfl, hz, hP5, hC5⟩
    have hR5 := hRq.past hP5 (by omega)
    have hs5 := hP5.size
    have HP5 : Hid (Past g w w5) := HPq.out.trans hP5
    have HC5 : Hid (Cur w5 g a len cap) := hC5
    clear B O hP5 hC5 hRq HPq HCq
    go_wp2_with fail
    refine (l1int_may ((z : Int) - 2) _ (by omega)).mono ?_
    rintro e w6 ⟨⟨k, n, s, ta, tl, tc, bs, rfl, hn, hsc, htl, hT, hok, hkq⟩, hb6⟩
    have HOK : Hid (termOk k bs n s = true) := hok
    clear hok hkq
    have hR6 := hR5.below hb6
    have HP6 : Hid (Past g w w6) := HP5.out.trans (Past.of_below hb6)
    have HC6 : Hid (Cur w6 g a len cap) := HC5.out.below hb6
    have HT : Hid (Tx w6 w5.heap.size ta tl tc bs) := hT
    obtain ⟨⟨o0, o1, o2, o3, o4⟩, f0, f1, f2, f3⟩ := id hR6
    clear hR5 hR6 hT hb6 HP5 HC5
    go_wp2
    refine bodyPost_ret (v := .agg #[.int .i64 k, .slice ta tl tc, .int .i64 n, .int .i64 s]) (by simp [results, Tryz.results57, go_sem, *]) rfl ?_
    exact term_endK HC.out HP6.out HC6.out HT.out (by omega) (Nat.le_refl _) (by omega) hn hsc htl HOK.out
  · go_wp2_with fail
    refine (PI _ w2.heap.size 7 (fun i => if i = 0 then 15 else if i = 1 then -25 else if i = 2 then 1 else if i = 3 then 1000000000000000 else if i = 4 then -1000000000000000 else if i = 5 then 999999 else 123456789012) (hC2.below (bl_a _)) (by omega) (by omega) (by simp) (by omega) (by
      intro i hi
      have hii : i = 0 ∨ i = 1 ∨ i = 2 ∨ i = 3 ∨ i = 4 ∨ i = 5 ∨ i = 6 := by omega
      rcases hii with rfl | rfl | rfl | rfl | rfl | rfl | rfl
      all_goals simp [go_sem])).mono ?_
    rintro e w3 ⟨j, hj, rfl, hP3, hC3⟩
    obtain ⟨q, hq, hq1, hq2⟩ : ∃ q : Int, q = (if j = 0 then 15 else if j = 1 then -25 else if j = 2 then 1 else if j = 3 then 1000000000000000 else if j = 4 then -1000000000000000 else if j = 5 then 999999 else 123456789012) ∧ -1000000000000000 ≤ q ∧ q ≤ 1000000000000000 := by
      refine ⟨_, rfl, ?_⟩
      have hii : j = 0 ∨ j = 1 ∨ j = 2 ∨ j = 3 ∨ j = 4 ∨ j = 5 ∨ j = 6 := by omega
      rcases hii with rfl | rfl | rfl | rfl | rfl | rfl | rfl
      all_goals decide
    rw [← hq]
    clear hq hj
    have hR3 := (hR2.below (bl_a _)).past hP3 (by omega)
    have hs3 := hP3.size
    simp at hs3
    have HP3 : Hid (Past g w w3) := (HP2.out.trans (Past.of_below (bl_a _))).trans hP3
    clear hP3 hR2 HP2 hC2
    go_wp2_with fail
    refine (B _ 7 hC3 (by omega) (by omega)).mono ?_
    rintro e w4 ⟨z, rfl, hz, hP4, hC4⟩
    have hR4 := hR3.past hP4 (by omega)
    have hs4 := hP4.size
    have HP4 : Hid (Past g w w4) := HP3.out.trans hP4
    clear hP4 hR3 HP3 hC3
    go_wp2_with fail
    refine (specNum_any q z _ (by omega) (by omega)).mono ?_
    rintro e w5 ⟨rfl, hb5⟩
    have hbq := numP_bounds q z
    have hb6 := numP_b6 q z
    have hmay := numP_may q z
    generalize tK (numP q z) = u1 at *
    generalize tN (numP q z) = u2 at *
    generalize tS (numP q z) = u3 at *
    generalize numOk (numP q z).1 (numP q z).2 = u4 at *
    have HMAY : Hid (u1 = 3 → termOk 3 [] u2 u3 = true) := hmay
    clear hmay
    have hRq := (hR4.below hb5).below (bl_a (.cells #[.int .i64 u1, .slice none 0 0, .int .i64 u2, .int .i64 u3] 24))
    have HPq : Hid (Past g w (w5.alloc (.cells #[.int .i64 u1, .slice none 0 0, .int .i64 u2, .int .i64 u3] 24))) := (HP4.out.trans (Past.of_below hb5)).trans (Past.of_below (bl_a _))
    have HCq : Hid (Cur (w5.alloc (.cells #[.int .i64 u1, .slice none 0 0, .int .i64 u2, .int .i64 u3] 24)) g a len cap) := (hC4.below hb5).below (bl_a _)
    have hZ := At4.new w5 (.int .i64 u1) (.slice none 0 0) (.int .i64 u2) (.int .i64 u3) 24
    have hsq : w.heap.size < (w5.alloc (.cells #[.int .i64 u1, .slice none 0 0, .int .i64 u2, .int .i64 u3] 24)).heap.size := by
      have := hb5.size
      simp
      omega
    clear hb5 hR4 HP4 hC4
    by_cases hu : u1 = 3
    · subst hu
      obtain ⟨⟨o0, o1, o2, o3, o4⟩, f0, f1, f2, f3⟩ := id hRq
      clear hRq B O
      go_wp2
      refine bodyPost_ret (v := .agg #[.int .i64 3, .slice none 0 0, .int .i64 u2, .int .i64 u3]) (by simp [results, Tryz.results57, go_sem, *]) rfl ?_
      exact term_endK HC.out HPq.out HCq.out (Tx.nil _ (w.heap.size + 1)) (by omega) (Nat.le_refl _) (by omega) hbq.1 hb6 (by omega) (HMAY.out (by simp))
    · have hu' : (u1 == 3) = false := by simp [hu]
      clear hu hZ
      clear PI
      go_wp2_with fail
      refine (B _ 7 HCq.out (by omega) (by omega)).mono ?_
      rintro e w5 ⟨z, rfl, hz, hP5, hC5⟩
      have hR5 := hRq.past hP5 (by omega)
      have hs5 := hP5.size
      have HP5 : Hid (Past g w w5) := HPq.out.trans hP5
      have HC5 : Hid (Cur w5 g a len cap) := hC5
      clear B O hP5 hC5 hRq HPq HCq
      go_wp2_with fail
      refine (l1int_may ((z : Int) - 2) _ (by omega)).mono ?_
      rintro e w6 ⟨⟨k, n, s, ta, tl, tc, bs, rfl, hn, hsc, htl, hT, hok, hkq⟩, hb6⟩
      have HOK : Hid (termOk k bs n s = true) := hok
      clear hok hkq
      have hR6 := hR5.below hb6
      have HP6 : Hid (Past g w w6) := HP5.out.trans (Past.of_below hb6)
      have HC6 : Hid (Cur w6 g a len cap) := HC5.out.below hb6
      have HT : Hid (Tx w6 w5.heap.size ta tl tc bs) := hT
      obtain ⟨⟨o0, o1, o2, o3, o4⟩, f0, f1, f2, f3⟩ := id hR6
      clear hR5 hR6 hT hb6 HP5 HC5
      go_wp2
      refine bodyPost_ret (v := .agg #[.int .i64 k, .slice ta tl tc, .int .i64 n, .int .i64 s]) (by simp [results, Tryz.results57, go_sem, *]) rfl ?_
      exact term_endK HC.out HP6.out HC6.out HT.out (by omega) (Nat.le_refl _) (by omega) hn hsc htl HOK.out
end Go.Proofs.YtoclingolfdfeaaGreatDoor
