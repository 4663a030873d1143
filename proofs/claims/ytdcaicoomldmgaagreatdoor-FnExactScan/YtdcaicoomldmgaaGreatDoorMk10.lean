/- Texts put together: StrF -/
import Derived.Test.YtdcaicoomldmgaaGreatDoorMk09
/- StrF -/
namespace Go.Proofs.YtdcaicoomldmgaaGreatDoor
open Go.RowKit Go.Deep
set_option maxRecDepth 100000

/-- What putting a term leaves. -/
def PutRes (w : World) (B : Nat) (l : List TB) (x : TB) (e : Ending) (w' : World) : Prop :=
  ∃ v' l', e = .returned v' ∧ OwnTR w' B v' l' ∧ Below w.heap.size w w' ∧ l'.length ≤ l.length + 1 ∧ (l'.map TB.td).Pairwise (fun p q => p.cmp q < 0) ∧ (∀ p, p ∈ l'.map TB.td ↔ p = x.td ∨ p ∈ l.map TB.td) ∧ ∀ y ∈ l', y = x ∨ y ∈ l

theorem put_res {l : List TB} {x : TB} {i : Nat} (hl : (l.map TB.td).Pairwise (fun p q => p.cmp q < 0)) (hi : i ≤ l.length) (h1 : ∀ j (h : j < l.length), j < i → l[j].td.cmp x.td < 0) (h2 : ∀ h : i < l.length, x.td.cmp l[i].td < 0) :
    ((l.take i ++ x :: l.drop i).map TB.td).Pairwise (fun p q => p.cmp q < 0) ∧ (∀ p, p ∈ (l.take i ++ x :: l.drop i).map TB.td ↔ p = x.td ∨ p ∈ l.map TB.td) ∧ ∀ y ∈ l.take i ++ x :: l.drop i, y = x ∨ y ∈ l := by
  have e : (l.take i ++ x :: l.drop i).map TB.td = (l.map TB.td).take i ++ x.td :: (l.map TB.td).drop i := by simp [List.map_take, List.map_drop]
  refine ⟨?_, fun p => ?_, fun y hy => (put_mem y).1 hy⟩
  · rw [e]
    refine put_asc hl (by simpa using hi) (fun j hj => ?_) (fun h => ?_)
    · simpa using h1 j (by omega) hj
    · simpa using h2 (by simpa using h)
  · rw [e]
    exact put_mem p

theorem one_term (w : World) (x : TB) : ∀ j u, (flat4 [x])[j]? = some u → (w.alloc (.cells #[.int .i64 x.t.k, .slice x.t.a x.t.len x.t.cap, .int .i64 x.t.n, .int .i64 x.t.s] 52)).cell? ((⟨w.heap.size, 0, none⟩ : Addr).add j) = some u := by
  intro j u hj
  have ea : (⟨w.heap.size, 0, none⟩ : Addr).add j = ⟨w.heap.size, j, none⟩ := by
    by_cases h0 : j = 0 <;> simp [Addr.add, h0]
  rw [ea]
  have e : flat4 [x] = [.int .i64 x.t.k, .slice x.t.a x.t.len x.t.cap, .int .i64 x.t.n, .int .i64 x.t.s] := rfl
  rw [e] at hj
  simp only [go_sem]
  simp
  exact hj

theorem OwnTR.base {w : World} {B B' : Nat} {v : Value} {l : List TB} (h : OwnTR w B' v l) (hB : B ≤ B') : OwnTR w B v l := by
  obtain ⟨⟨h1, h2⟩, hl⟩ := h
  refine ⟨⟨h1, ?_⟩, fun g hg => ⟨Nat.le_trans hB (hl g hg).1, (hl g hg).2⟩⟩
  rcases h2 with h2 | ⟨g, cap, cur, hv, hb, r⟩
  · exact .inl h2
  · exact .inr ⟨g, cap, cur, hv, Nat.le_trans hB hb, r⟩
theorem ownTR_cap {w : World} {B N g c : Nat} {l : List TB} (h : OwnTR w B (.slice (some ⟨g, 0, none⟩) N c) l) (hN : N = l.length) : N ≤ c := by
  rcases h.1.2 with ⟨hv, _⟩ | ⟨g', c', cur, hv, _, _, hle, _⟩
  · cases hv
  · cases hv; omega
theorem At4.belowB {w w' : World} {b B : Nat} {v0 v1 v2 v3 : Value} (h : At4 w b v0 v1 v2 v3) (hb : Below B w w') (hB : b < B) : At4 w' b v0 v1 v2 v3 := by
  obtain ⟨hl, h0, h1, h2, h3⟩ := h
  exact ⟨Nat.lt_of_lt_of_le hl hb.size, (hb.cell (p := ⟨b, 0, none⟩) hB).trans h0, (hb.cell (p := ⟨b, 1, none⟩) hB).trans h1, (hb.cell (p := ⟨b, 2, none⟩) hB).trans h2, (hb.cell (p := ⟨b, 3, none⟩) hB).trans h3⟩

set_option maxHeartbeats 4000000 in
theorem l3putTerm_any (a : Option Addr) (cap B : Nat) (l : List TB) (x : TB) (w : World) (hn : l.length ≤ 1000000) (hnil0 : l = [] → a = none ∧ cap = 0) (hO : OwnTR w B (.slice a l.length cap) l) (hBw : B ≤ w.heap.size) (hT : TTxt w l) (hg : ∀ y ∈ l, y.good) (hasc : (l.map TB.td).Pairwise (fun p q => p.cmp q < 0)) (hx : x.good) (hX : Bs w x.t.a x.t.len x.b) :
    Calls Tryz.prog 75 #[.slice a l.length cap, .agg #[.int .i64 x.t.k, .slice x.t.a x.t.len x.t.cap, .int .i64 x.t.n, .int .i64 x.t.s]] w fun e w' => PutRes w B l x e w' := by
  obtain ⟨a', cap', hv, hR, hlc, hnil, hsome⟩ := hO.form
  cases hv
  have HO : Hid (OwnTR w B (.slice a l.length cap) l) := hO
  have HT : Hid (TTxt w l) := hT
  have HG : Hid (∀ y ∈ l, y.good) := hg
  have HXX : Hid (Bs w x.t.a x.t.len x.b) := hX
  have HX0 : Hid x.good := hx
  have HAS : Hid ((l.map TB.td).Pairwise (fun p q => p.cmp q < 0)) := hasc
  have HBM : Hid (∀ (w' : World) (v : Value) (l : List TB), OwnTR w' (w.heap.size + 1) v l → OwnTR w' B v l) := fun w' v l h => h.base (by omega)
  have HW : Hid (∀ wr, Below (w.heap.size + 1) (w.alloc (.cells #[.int .i64 x.t.k, .slice x.t.a x.t.len x.t.cap, .int .i64 x.t.n, .int .i64 x.t.s] 52)) wr → Below w.heap.size w wr) := fun wr h => (bl_a (w := w) _).trans (h.mono (Nat.le_succ _))
  have HAT : Hid (∀ wr, Below (w.heap.size + 1) (w.alloc (.cells #[.int .i64 x.t.k, .slice x.t.a x.t.len x.t.cap, .int .i64 x.t.n, .int .i64 x.t.s] 52)) wr → (At4 wr w.heap.size (.int .i64 x.t.k) (.slice x.t.a x.t.len x.t.cap) (.int .i64 x.t.n) (.int .i64 x.t.s))) := fun wr h => (At4.new w _ _ _ _ _).belowB h (Nat.lt_succ_self _)
  have HSZ : Hid (∀ wr, Below (w.heap.size + 1) (w.alloc (.cells #[.int .i64 x.t.k, .slice x.t.a x.t.len x.t.cap, .int .i64 x.t.n, .int .i64 x.t.s] 52)) wr → (w.heap.size + 1) ≤ wr.heap.size) := fun wr h => Nat.le_trans (by simp) h.size
  obtain ⟨n, hnn⟩ : ∃ n, n = l.length := ⟨_, rfl⟩
  have HN : Hid (n = l.length) := hnn
  rw [← hnn] at hn hlc HO ⊢
  by_cases hn0 : n = 0
  · have hl : l = [] := List.eq_nil_of_length_eq_zero (by omega)
    subst hn0 hl
    obtain ⟨rfl, rfl⟩ := hnil0 rfl
    clear hR hT hg hX hx hO hasc hnil hsome hnn HT HG
    have HB : Hid (Below (w.heap.size + 1) (w.alloc (.cells #[.int .i64 x.t.k, .slice x.t.a x.t.len x.t.cap, .int .i64 x.t.n, .int .i64 x.t.s] 52)) (w.alloc (.cells #[.int .i64 x.t.k, .slice x.t.a x.t.len x.t.cap, .int .i64 x.t.n, .int .i64 x.t.s] 52))) := Below.refl _ _
    go_enter Tryz.func75, Tryz.ntmps75
    go_wp2_with fail
    refine wp_loop_rounds 1 ?_
    rw [rounds_succ]
    go_wp2_with fail
    refine wp_region_quiet_below (by kernel_rfl) (by kernel_rfl) ?_
    quiet_step (fail)
    quiet_step (fail)
    quiet_step (fail)
    quiet_step (fail)
    quiet_step (fail)
    quiet_step (fail)
    quiet_step (fail)
    quiet_step (fail)
    quiet_step (fail)
    quiet_step (fail)
    quiet_step (fail)
    quiet_step (fail)
    quiet_step (fail)
    refine wpQuiet_nil ?_
    intro _ hw'
    obtain ⟨⟨dq, osq⟩, hw''⟩ := hw'
    subst hw''
    have HBq : Hid (Below (w.heap.size + 1) (w.alloc (.cells #[.int .i64 x.t.k, .slice x.t.a x.t.len x.t.cap, .int .i64 x.t.n, .int .i64 x.t.s] 52)) (Go.Sort.grow (redrawn (w.alloc (.cells #[.int .i64 x.t.k, .slice x.t.a x.t.len x.t.cap, .int .i64 x.t.n, .int .i64 x.t.s] 52)) dq) osq)) := HB.out.trans ((bl_regrown (w := (w.alloc (.cells #[.int .i64 x.t.k, .slice x.t.a x.t.len x.t.cap, .int .i64 x.t.n, .int .i64 x.t.s] 52))) dq osq).mono (HSZ.out _ HB.out))
    clear HB
    dsimp only
    generalize Go.Sort.grow (redrawn (w.alloc (.cells #[.int .i64 x.t.k, .slice x.t.a x.t.len x.t.cap, .int .i64 x.t.n, .int .i64 x.t.s] 52)) dq) osq = wq at *
    go_wp2_with fail
    refine wp_region_quiet_below (by kernel_rfl) (by kernel_rfl) ?_
    quiet_step (fail)
    quiet_step (fail)
    quiet_step (fail)
    quiet_step (fail)
    quiet_step (fail)
    quiet_step (fail)
    quiet_step (fail)
    quiet_step (fail)
    quiet_step (fail)
    quiet_step (fail)
    quiet_step (fail)
    quiet_step (fail)
    quiet_step (fail)
    refine wpQuiet_nil ?_
    intro _ hw'
    obtain ⟨⟨dq, osq⟩, hw''⟩ := hw'
    subst hw''
    have HBr : Hid (Below (w.heap.size + 1) (w.alloc (.cells #[.int .i64 x.t.k, .slice x.t.a x.t.len x.t.cap, .int .i64 x.t.n, .int .i64 x.t.s] 52)) (Go.Sort.grow (redrawn wq dq) osq)) := HBq.out.trans ((bl_regrown (w := wq) dq osq).mono (HSZ.out _ HBq.out))
    clear HBq
    dsimp only
    generalize Go.Sort.grow (redrawn wq dq) osq = wp at *
    have HP : Hid ((((([] : List TB).take 0 ++ x :: ([] : List TB).drop 0)).map TB.td).Pairwise (fun p q => p.cmp q < 0) ∧ (∀ p, p ∈ ((([] : List TB).take 0 ++ x :: ([] : List TB).drop 0)).map TB.td ↔ p = x.td ∨ p ∈ ([] : List TB).map TB.td) ∧ ∀ y ∈ ([] : List TB).take 0 ++ x :: ([] : List TB).drop 0, y = x ∨ y ∈ ([] : List TB)) := put_res (l := []) (x := x) (i := 0) HAS.out (by simp) (fun j hj => by simp at hj) (fun h => by simp at h)
    have hs0 : (w.heap.size + 1) ≤ wp.heap.size := HSZ.out _ HBr.out
    obtain ⟨y0, b1, b2, b3, b4⟩ := HAT.out wp HBr.out
    have HOa : Hid (OwnTR wp (w.heap.size + 1) (.slice none 0 0) []) := OwnTR.nil _ _
    have HO2 : Hid (OwnTR (wp.alloc (.cells #[.int .i64 x.t.k, .slice x.t.a x.t.len x.t.cap, .int .i64 x.t.n, .int .i64 x.t.s] 52)) (w.heap.size + 1) (.slice none 0 0) []) := (HOa.out).below (bl_a _)
    have HN2 : Hid (∀ j u, (flat4 [x])[j]? = some u → (wp.alloc (.cells #[.int .i64 x.t.k, .slice x.t.a x.t.len x.t.cap, .int .i64 x.t.n, .int .i64 x.t.s] 52)).cell? ((⟨wp.heap.size, 0, none⟩ : Addr).add j) = some u) := one_term wp x
    have HB2a : Hid (Below (w.heap.size + 1) (w.alloc (.cells #[.int .i64 x.t.k, .slice x.t.a x.t.len x.t.cap, .int .i64 x.t.n, .int .i64 x.t.s] 52)) (wp.alloc (.cells #[.int .i64 x.t.k, .slice x.t.a x.t.len x.t.cap, .int .i64 x.t.n, .int .i64 x.t.s] 52))) := HBr.out.alloc (HSZ.out _ HBr.out) _
    have hs2 := HSZ.out _ HB2a.out
    go_wp2_with (first
      | (refine appT rfl (.tmp 41) (.tmp 43) rfl (w.heap.size + 1) (.slice none 0 0) [] rfl HO2 ⟨wp.heap.size, 0, none⟩ 1 1 [x] rfl rfl HN2 (by omega) 1 rfl [x] rfl (by omega) hs2 ?_; intro g3 c3 w3 HO3 hgx hax HBx; have HB3 : Hid (Below (w.heap.size + 1) (w.alloc (.cells #[.int .i64 x.t.k, .slice x.t.a x.t.len x.t.cap, .int .i64 x.t.n, .int .i64 x.t.s] 52)) w3) := HB2a.out.trans HBx.out; have hs3 := HSZ.out _ HB3.out; clear hgx hax HBx; have hc3 : 1 ≤ c3 := ownTR_cap HO3.out (by simp; (try (have := HN.out; omega)))))
    all_goals
      go_ret
      refine ⟨_, ([] : List TB).take 0 ++ x :: ([] : List TB).drop 0, rfl, HBM.out _ _ _ ?_, HW.out _ HB3.out, by simp; (try (have := HN.out; omega)), HP.out.1, HP.out.2.1, HP.out.2.2⟩
      have h := HO3.out
      rw [show ([] : List TB).drop 0 = [] from List.drop_eq_nil_of_le (by have := HN.out; omega)]
      first | exact h | simpa using h
  have hl0 : l ≠ [] := by intro e; subst e; simp at hnn; exact hn0 hnn
  obtain ⟨b, off, rfl, hlt, hc⟩ := hR.resolve_left hl0
  have HC : Hid (∀ j u, (flat4 l)[j]? = some u → w.cell? ⟨b, off + j, none⟩ = some u) := hc
  clear hnn hR hT hg hX hx hO hasc hnil hsome hc hl0
  go_enter Tryz.func75, Tryz.ntmps75
  go_wp2_with fail
  go_loopw [5] (fun i wr => ∃ k : Nat, k ≤ n ∧ i = .int .i64 k ∧ Hid (∀ j (h : j < l.length), j < k → l[j].td.cmp x.td < 0) ∧ Hid (Below (w.heap.size + 1) (w.alloc (.cells #[.int .i64 x.t.k, .slice x.t.a x.t.len x.t.cap, .int .i64 x.t.n, .int .i64 x.t.s] 52)) wr))
    (fun i _ => n - (intOf i).toNat)
  case atStart => exact ⟨0, Nat.zero_le _, rfl, fun j _ hj => by omega, Below.refl _ _⟩
  case round =>
    obtain ⟨k, hk, rfl, HE, HB⟩ := hrel
    by_cases hlk : k < n
    · have hkl : k < l.length := by rw [← HN.out]; exact hlk
      obtain ⟨y, hy⟩ : ∃ y, y = l[k] := ⟨_, rfl⟩
      have HY : Hid (y = l[k]) := hy
      have hym : y ∈ l := by rw [hy]; exact List.getElem_mem hkl
      have HYM : Hid (y ∈ l) := hym
      have hcx := fun (w' : World) (hq : Below (w.heap.size + 1) (w.alloc (.cells #[.int .i64 x.t.k, .slice x.t.a x.t.len x.t.cap, .int .i64 x.t.n, .int .i64 x.t.s] 52)) w') => TRow.at (l := l) (b := b) (off := off) (w := w') (fun j u hu => ((HW.out _ hq).cell (p := ⟨b, off + j, none⟩) hlt).trans (HC.out j u hu)) k hkl
      rw [← hy] at hcx
      have HCX : Hid (∀ (w' : World), Below (w.heap.size + 1) (w.alloc (.cells #[.int .i64 x.t.k, .slice x.t.a x.t.len x.t.cap, .int .i64 x.t.n, .int .i64 x.t.s] 52)) w' → w'.cell? ⟨b, off + k * 4, none⟩ = some (.int .i64 y.t.k) ∧ w'.cell? ⟨b, off + k * 4 + 1, none⟩ = some (.slice y.t.a y.t.len y.t.cap) ∧ w'.cell? ⟨b, off + k * 4 + 2, none⟩ = some (.int .i64 y.t.n) ∧ w'.cell? ⟨b, off + k * 4 + 3, none⟩ = some (.int .i64 y.t.s)) := hcx
      have HCC : Hid (∀ (w' : World), Below (w.heap.size + 1) (w.alloc (.cells #[.int .i64 x.t.k, .slice x.t.a x.t.len x.t.cap, .int .i64 x.t.n, .int .i64 x.t.s] 52)) w' → Calls Tryz.prog 66 #[.agg #[.int .i64 y.t.k, .slice y.t.a y.t.len y.t.cap, .int .i64 y.t.n, .int .i64 y.t.s], .agg #[.int .i64 x.t.k, .slice x.t.a x.t.len x.t.cap, .int .i64 x.t.n, .int .i64 x.t.s]] w' fun e w'' => e = .returned (.int .i64 (y.td.cmp x.td)) ∧ Below w'.heap.size w' w'') := fun w' hq => l1compare_tb y x w' (HG.out y hym) HX0.out ((HT.out y hym).below (HW.out _ hq)) (HXX.out.below (HW.out _ hq))
      have hdk : decide ((k : Int) < (n : Int)) = true := by simp; omega
      clear hcx hy hym
      have a1 := fun d os => (HCX.out (Go.Sort.grow (redrawn wr d) os) (HB.out.trans ((bl_regrown (w := wr) d os).mono (HSZ.out _ HB.out)))).1
      have a2 := fun d os => (HCX.out (Go.Sort.grow (redrawn wr d) os) (HB.out.trans ((bl_regrown (w := wr) d os).mono (HSZ.out _ HB.out)))).2.1
      have a3 := fun d os => (HCX.out (Go.Sort.grow (redrawn wr d) os) (HB.out.trans ((bl_regrown (w := wr) d os).mono (HSZ.out _ HB.out)))).2.2.1
      have a4 := fun d os => (HCX.out (Go.Sort.grow (redrawn wr d) os) (HB.out.trans ((bl_regrown (w := wr) d os).mono (HSZ.out _ HB.out)))).2.2.2
      have b1 := fun d os => (HAT.out (Go.Sort.grow (redrawn wr d) os) (HB.out.trans ((bl_regrown (w := wr) d os).mono (HSZ.out _ HB.out)))).2.1
      have b2 := fun d os => (HAT.out (Go.Sort.grow (redrawn wr d) os) (HB.out.trans ((bl_regrown (w := wr) d os).mono (HSZ.out _ HB.out)))).2.2.1
      have b3 := fun d os => (HAT.out (Go.Sort.grow (redrawn wr d) os) (HB.out.trans ((bl_regrown (w := wr) d os).mono (HSZ.out _ HB.out)))).2.2.2.1
      have b4 := fun d os => (HAT.out (Go.Sort.grow (redrawn wr d) os) (HB.out.trans ((bl_regrown (w := wr) d os).mono (HSZ.out _ HB.out)))).2.2.2.2
      have C1 := fun d os => Calls.regrown_of (HCC.out (Go.Sort.grow (redrawn wr d) os) (HB.out.trans ((bl_regrown (w := wr) d os).mono (HSZ.out _ HB.out))))
      go_wp2_with fail
      refine wp_region_quiet_below (by kernel_rfl) (by kernel_rfl) ?_
      quiet_step (fail)
      quiet_step (fail)
      quiet_step (fail)
      quiet_step (fail)
      quiet_step (fail)
      quiet_step (fail)
      quiet_step (fail)
      quiet_step (fail)
      quiet_step (fail)
      quiet_step (fail)
      quiet_step (exact C1 _ _)
      quiet_step (fail)
      quiet_step (fail)
      refine wpQuiet_nil ?_
      intro _ hw'
      obtain ⟨⟨dq, osq⟩, hw''⟩ := hw'
      subst hw''
      have HBq : Hid (Below (w.heap.size + 1) (w.alloc (.cells #[.int .i64 x.t.k, .slice x.t.a x.t.len x.t.cap, .int .i64 x.t.n, .int .i64 x.t.s] 52)) (Go.Sort.grow (redrawn wr dq) osq)) := HB.out.trans ((bl_regrown (w := wr) dq osq).mono (HSZ.out _ HB.out))
      clear a1 a2 a3 a4 b1 b2 b3 b4 C1 HB
      dsimp only
      generalize Go.Sort.grow (redrawn wr dq) osq = wq at *
      by_cases hz : y.td.cmp x.td < 0
      · have hz' : decide (y.td.cmp x.td < 0) = true := by simp [hz]
        have HZ : Hid (y.td.cmp x.td < 0) := hz
        go_wp2_with fail
        go_roundw
        case rel =>
          refine ⟨k + 1, by omega, by go_num, fun j hjl hj => ?_, HBq⟩
          by_cases e : j = k
          · subst e
            have := HZ.out
            rw [HY.out] at this
            exact this
          · exact HE.out j hjl (by omega)
        case measure => simp [intOf]; omega
      · have hz' : decide (y.td.cmp x.td < 0) = false := by simp [hz]
        have a1 := fun d os => (HCX.out (Go.Sort.grow (redrawn wq d) os) (HBq.out.trans ((bl_regrown (w := wq) d os).mono (HSZ.out _ HBq.out)))).1
        have a2 := fun d os => (HCX.out (Go.Sort.grow (redrawn wq d) os) (HBq.out.trans ((bl_regrown (w := wq) d os).mono (HSZ.out _ HBq.out)))).2.1
        have a3 := fun d os => (HCX.out (Go.Sort.grow (redrawn wq d) os) (HBq.out.trans ((bl_regrown (w := wq) d os).mono (HSZ.out _ HBq.out)))).2.2.1
        have a4 := fun d os => (HCX.out (Go.Sort.grow (redrawn wq d) os) (HBq.out.trans ((bl_regrown (w := wq) d os).mono (HSZ.out _ HBq.out)))).2.2.2
        have b1 := fun d os => (HAT.out (Go.Sort.grow (redrawn wq d) os) (HBq.out.trans ((bl_regrown (w := wq) d os).mono (HSZ.out _ HBq.out)))).2.1
        have b2 := fun d os => (HAT.out (Go.Sort.grow (redrawn wq d) os) (HBq.out.trans ((bl_regrown (w := wq) d os).mono (HSZ.out _ HBq.out)))).2.2.1
        have b3 := fun d os => (HAT.out (Go.Sort.grow (redrawn wq d) os) (HBq.out.trans ((bl_regrown (w := wq) d os).mono (HSZ.out _ HBq.out)))).2.2.2.1
        have b4 := fun d os => (HAT.out (Go.Sort.grow (redrawn wq d) os) (HBq.out.trans ((bl_regrown (w := wq) d os).mono (HSZ.out _ HBq.out)))).2.2.2.2
        have C1 := fun d os => Calls.regrown_of (HCC.out (Go.Sort.grow (redrawn wq d) os) (HBq.out.trans ((bl_regrown (w := wq) d os).mono (HSZ.out _ HBq.out))))
        have HNZ : Hid (¬ y.td.cmp x.td < 0) := hz
        go_wp2_with fail
        refine wp_region_quiet_below (by kernel_rfl) (by kernel_rfl) ?_
        quiet_step (fail)
        quiet_step (fail)
        quiet_step (fail)
        quiet_step (fail)
        quiet_step (fail)
        quiet_step (fail)
        quiet_step (fail)
        quiet_step (fail)
        quiet_step (fail)
        quiet_step (fail)
        quiet_step (exact C1 _ _)
        quiet_step (fail)
        quiet_step (fail)
        refine wpQuiet_nil ?_
        intro _ hw'
        obtain ⟨⟨dq, osq⟩, hw''⟩ := hw'
        subst hw''
        have HBr : Hid (Below (w.heap.size + 1) (w.alloc (.cells #[.int .i64 x.t.k, .slice x.t.a x.t.len x.t.cap, .int .i64 x.t.n, .int .i64 x.t.s] 52)) (Go.Sort.grow (redrawn wq dq) osq)) := HBq.out.trans ((bl_regrown (w := wq) dq osq).mono (HSZ.out _ HBq.out))
        clear a1 a2 a3 a4 b1 b2 b3 b4 C1 HBq
        dsimp only
        generalize Go.Sort.grow (redrawn wq dq) osq = wp at *
        by_cases hy0 : y.td.cmp x.td = 0
        · have hy0' : (y.td.cmp x.td == 0) = true := by simp [hy0]
          have HY0 : Hid (y.td.cmp x.td = 0) := hy0
          clear hy0
          go_wp2_with fail
          go_ret
          refine ⟨_, l, rfl, HO.out.below (HW.out _ HBr.out), HW.out _ HBr.out, Nat.le_succ _, HAS.out, fun p => ⟨fun h => .inr h, fun h => ?_⟩, fun z hz => .inr hz⟩
          rcases h with rfl | h
          · have e : y.td = x.td := ordP_cmp.z _ _ (HG.out y HYM.out) HX0.out HY0.out
            rw [← e]
            exact List.mem_map.2 ⟨y, HYM.out, rfl⟩
          · exact h
        · have hy0' : (y.td.cmp x.td == 0) = false := by simp [hy0]
          have HPR := put_res (l := l) (x := x) (i := k) HAS.out (by omega) HE.out (fun h => by
            have e1 := HNZ.out
            have e2 := ord_cmp.anti x.td y.td
            rw [HY.out] at e1 e2 hy0
            have := hy0
            omega)
          have HP : Hid (((l.take k ++ x :: l.drop k).map TB.td).Pairwise (fun p q => p.cmp q < 0) ∧ (∀ p, p ∈ (l.take k ++ x :: l.drop k).map TB.td ↔ p = x.td ∨ p ∈ l.map TB.td) ∧ ∀ y ∈ l.take k ++ x :: l.drop k, y = x ∨ y ∈ l) := HPR
          clear HPR hy0
          have hs0 : (w.heap.size + 1) ≤ wp.heap.size := HSZ.out _ HBr.out
          obtain ⟨y0, b1, b2, b3, b4⟩ := HAT.out wp HBr.out
          by_cases hk0 : k = 0
          · subst hk0
            clear HE HCX HCC HY HYM HNZ
            have HOa : Hid (OwnTR wp (w.heap.size + 1) (.slice none 0 0) []) := OwnTR.nil _ _
            have HO2 : Hid (OwnTR (wp.alloc (.cells #[.int .i64 x.t.k, .slice x.t.a x.t.len x.t.cap, .int .i64 x.t.n, .int .i64 x.t.s] 52)) (w.heap.size + 1) (.slice none 0 0) []) := (HOa.out).below (bl_a _)
            have HN2 : Hid (∀ j u, (flat4 [x])[j]? = some u → (wp.alloc (.cells #[.int .i64 x.t.k, .slice x.t.a x.t.len x.t.cap, .int .i64 x.t.n, .int .i64 x.t.s] 52)).cell? ((⟨wp.heap.size, 0, none⟩ : Addr).add j) = some u) := one_term wp x
            have HB2a : Hid (Below (w.heap.size + 1) (w.alloc (.cells #[.int .i64 x.t.k, .slice x.t.a x.t.len x.t.cap, .int .i64 x.t.n, .int .i64 x.t.s] 52)) (wp.alloc (.cells #[.int .i64 x.t.k, .slice x.t.a x.t.len x.t.cap, .int .i64 x.t.n, .int .i64 x.t.s] 52))) := HBr.out.alloc (HSZ.out _ HBr.out) _
            have hs2 := HSZ.out _ HB2a.out
            go_wp2_with (first
              | (refine appT rfl (.tmp 41) (.tmp 43) rfl (w.heap.size + 1) (.slice none 0 0) [] rfl HO2 ⟨wp.heap.size, 0, none⟩ 1 1 [x] rfl rfl HN2 (by omega) 1 rfl [x] rfl (by omega) hs2 ?_; intro g3 c3 w3 HO3 hgx hax HBx; have HB3 : Hid (Below (w.heap.size + 1) (w.alloc (.cells #[.int .i64 x.t.k, .slice x.t.a x.t.len x.t.cap, .int .i64 x.t.n, .int .i64 x.t.s] 52)) w3) := HB2a.out.trans HBx.out; have hs3 := HSZ.out _ HB3.out; clear hgx hax HBx; have HN3 : Hid (∀ j u, (flat4 (l.drop 0))[j]? = some u → w3.cell? ((⟨b, off, none⟩ : Addr).add j) = some u) := (by have h := TRow.news (w := w3) (b := b) (off := off) (l := l) (fun j u hu => ((HW.out _ HB3.out).cell (p := ⟨b, off + j, none⟩) hlt).trans (HC.out j u hu)) 0 l.length; rwa [List.take_of_length_le (by simp)] at h))
              | (refine appT rfl (.tmp 45) (.tmp 48) rfl (w.heap.size + 1) (.slice (some ⟨g3, 0, none⟩) 1 c3) [x] rfl HO3 ⟨b, off, none⟩ n _ (l.drop 0) rfl (by rw [List.length_drop]; have := HN.out; omega) HN3 (by omega) (1 + n) (by simp; (try (have := HN.out; omega))) ([x] ++ (l.drop 0)) rfl (by omega) hs3 ?_; intro g4 c4 w4 HO4 hgx hax HBx; have HB4 : Hid (Below (w.heap.size + 1) (w.alloc (.cells #[.int .i64 x.t.k, .slice x.t.a x.t.len x.t.cap, .int .i64 x.t.n, .int .i64 x.t.s] 52)) w4) := HB3.out.trans HBx.out; clear hgx hax HBx))
            go_ret
            refine ⟨_, l.take 0 ++ x :: l.drop 0, rfl, HBM.out _ _ _ ?_, HW.out _ HB4.out, by simp; (try (have := HN.out; omega)), HP.out.1, HP.out.2.1, HP.out.2.2⟩
            have h := HO4.out
            first | exact h | simpa using h
          · clear HE HCX HCC HY HYM HNZ
            have HOn : Hid (OwnTR wp (w.heap.size + 1) (.slice none 0 0) []) := OwnTR.nil _ _
            have HN1 : Hid (∀ j u, (flat4 (l.take k))[j]? = some u → wp.cell? ((⟨b, off, none⟩ : Addr).add j) = some u) := by
              have h := TRow.news (w := wp) (b := b) (off := off) (l := l) (fun j u hu => ((HW.out _ HBr.out).cell (p := ⟨b, off + j, none⟩) hlt).trans (HC.out j u hu)) 0 k
              simp at h
              exact h
            have hlk' : (l.take k).length = k := by rw [List.length_take]; have := HN.out; omega
            go_wp2_with (first
              | (refine appT rfl (.tmp 36) (.tmp 39) rfl (w.heap.size + 1) (.slice none 0 0) [] rfl HOn ⟨b, off, none⟩ k _ (l.take k) rfl hlk' HN1 (by omega) k (by simp) (l.take k) rfl (by omega) hs0 ?_; intro g2 c2 w2 HOa hgx hax HBx; have HB2 : Hid (Below (w.heap.size + 1) (w.alloc (.cells #[.int .i64 x.t.k, .slice x.t.a x.t.len x.t.cap, .int .i64 x.t.n, .int .i64 x.t.s] 52)) w2) := HBr.out.trans HBx.out; clear hgx hax HBx HOn HN1; obtain ⟨z0, z1, z2, z3, z4⟩ := HAT.out w2 HB2.out; have HO2 : Hid (OwnTR (w2.alloc (.cells #[.int .i64 x.t.k, .slice x.t.a x.t.len x.t.cap, .int .i64 x.t.n, .int .i64 x.t.s] 52)) (w.heap.size + 1) (.slice (some ⟨g2, 0, none⟩) k c2) (l.take k)) := (HOa.out).below (bl_a _); have HN2 : Hid (∀ j u, (flat4 [x])[j]? = some u → (w2.alloc (.cells #[.int .i64 x.t.k, .slice x.t.a x.t.len x.t.cap, .int .i64 x.t.n, .int .i64 x.t.s] 52)).cell? ((⟨w2.heap.size, 0, none⟩ : Addr).add j) = some u) := one_term w2 x; have HB2a : Hid (Below (w.heap.size + 1) (w.alloc (.cells #[.int .i64 x.t.k, .slice x.t.a x.t.len x.t.cap, .int .i64 x.t.n, .int .i64 x.t.s] 52)) (w2.alloc (.cells #[.int .i64 x.t.k, .slice x.t.a x.t.len x.t.cap, .int .i64 x.t.n, .int .i64 x.t.s] 52))) := HB2.out.alloc (HSZ.out _ HB2.out) _; have hs2 := HSZ.out _ HB2a.out)
              | (refine appT rfl (.tmp 41) (.tmp 43) rfl (w.heap.size + 1) (.slice (some ⟨g2, 0, none⟩) k c2) (l.take k) rfl HO2 ⟨w2.heap.size, 0, none⟩ 1 1 [x] rfl rfl HN2 (by omega) (k + 1) (by simp; have := HN.out; omega) ((l.take k) ++ [x]) rfl (by omega) hs2 ?_; intro g3 c3 w3 HO3 hgx hax HBx; have HB3 : Hid (Below (w.heap.size + 1) (w.alloc (.cells #[.int .i64 x.t.k, .slice x.t.a x.t.len x.t.cap, .int .i64 x.t.n, .int .i64 x.t.s] 52)) w3) := HB2a.out.trans HBx.out; have hs3 := HSZ.out _ HB3.out; clear hgx hax HBx; have HN3 : Hid (∀ j u, (flat4 (l.drop k))[j]? = some u → w3.cell? ((⟨b, off + k * 4, none⟩ : Addr).add j) = some u) := (by have h := TRow.news (w := w3) (b := b) (off := off) (l := l) (fun j u hu => ((HW.out _ HB3.out).cell (p := ⟨b, off + j, none⟩) hlt).trans (HC.out j u hu)) k l.length; rwa [List.take_of_length_le (by simp)] at h))
              | (refine appT rfl (.tmp 45) (.tmp 48) rfl (w.heap.size + 1) (.slice (some ⟨g3, 0, none⟩) (k + 1) c3) ((l.take k) ++ [x]) rfl HO3 ⟨b, off + k * 4, none⟩ (n - k) _ (l.drop k) rfl (by rw [List.length_drop]; have := HN.out; omega) HN3 (by omega) ((k + 1) + (n - k)) (by simp; (try (have := HN.out; omega))) (((l.take k) ++ [x]) ++ (l.drop k)) rfl (by omega) hs3 ?_; intro g4 c4 w4 HO4 hgx hax HBx; have HB4 : Hid (Below (w.heap.size + 1) (w.alloc (.cells #[.int .i64 x.t.k, .slice x.t.a x.t.len x.t.cap, .int .i64 x.t.n, .int .i64 x.t.s] 52)) w4) := HB3.out.trans HBx.out; clear hgx hax HBx))
            go_ret
            refine ⟨_, l.take k ++ x :: l.drop k, rfl, HBM.out _ _ _ ?_, HW.out _ HB4.out, by simp; (try (have := HN.out; omega)), HP.out.1, HP.out.2.1, HP.out.2.2⟩
            have h := HO4.out
            first | exact h | simpa using h
    · obtain rfl : k = n := by omega
      have hdk : decide ((k : Int) < (k : Int)) = false := by simp
      go_wp2_with fail
      refine wp_region_quiet_below (by kernel_rfl) (by kernel_rfl) ?_
      quiet_step (fail)
      quiet_step (fail)
      quiet_step (fail)
      quiet_step (fail)
      quiet_step (fail)
      quiet_step (fail)
      quiet_step (fail)
      quiet_step (fail)
      quiet_step (fail)
      quiet_step (fail)
      quiet_step (fail)
      quiet_step (fail)
      quiet_step (fail)
      refine wpQuiet_nil ?_
      intro _ hw'
      obtain ⟨⟨dq, osq⟩, hw''⟩ := hw'
      subst hw''
      have HBq : Hid (Below (w.heap.size + 1) (w.alloc (.cells #[.int .i64 x.t.k, .slice x.t.a x.t.len x.t.cap, .int .i64 x.t.n, .int .i64 x.t.s] 52)) (Go.Sort.grow (redrawn wr dq) osq)) := HB.out.trans ((bl_regrown (w := wr) dq osq).mono (HSZ.out _ HB.out))
      clear HB
      dsimp only
      generalize Go.Sort.grow (redrawn wr dq) osq = wq at *
      go_wp2_with fail
      refine wp_region_quiet_below (by kernel_rfl) (by kernel_rfl) ?_
      quiet_step (fail)
      quiet_step (fail)
      quiet_step (fail)
      quiet_step (fail)
      quiet_step (fail)
      quiet_step (fail)
      quiet_step (fail)
      quiet_step (fail)
      quiet_step (fail)
      quiet_step (fail)
      quiet_step (fail)
      quiet_step (fail)
      quiet_step (fail)
      refine wpQuiet_nil ?_
      intro _ hw'
      obtain ⟨⟨dq, osq⟩, hw''⟩ := hw'
      subst hw''
      have HBr : Hid (Below (w.heap.size + 1) (w.alloc (.cells #[.int .i64 x.t.k, .slice x.t.a x.t.len x.t.cap, .int .i64 x.t.n, .int .i64 x.t.s] 52)) (Go.Sort.grow (redrawn wq dq) osq)) := HBq.out.trans ((bl_regrown (w := wq) dq osq).mono (HSZ.out _ HBq.out))
      clear HBq
      dsimp only
      generalize Go.Sort.grow (redrawn wq dq) osq = wp at *
      have HP : Hid (((l.take k ++ x :: l.drop k).map TB.td).Pairwise (fun p q => p.cmp q < 0) ∧ (∀ p, p ∈ (l.take k ++ x :: l.drop k).map TB.td ↔ p = x.td ∨ p ∈ l.map TB.td) ∧ ∀ y ∈ l.take k ++ x :: l.drop k, y = x ∨ y ∈ l) := put_res (l := l) (x := x) (i := k) HAS.out (by have := HN.out; omega) HE.out (fun h => by have := HN.out; omega)
      have hs0 : (w.heap.size + 1) ≤ wp.heap.size := HSZ.out _ HBr.out
      obtain ⟨y0, b1, b2, b3, b4⟩ := HAT.out wp HBr.out
      have HOn : Hid (OwnTR wp (w.heap.size + 1) (.slice none 0 0) []) := OwnTR.nil _ _
      have HN1 : Hid (∀ j u, (flat4 (l.take k))[j]? = some u → wp.cell? ((⟨b, off, none⟩ : Addr).add j) = some u) := by
        have h := TRow.news (w := wp) (b := b) (off := off) (l := l) (fun j u hu => ((HW.out _ HBr.out).cell (p := ⟨b, off + j, none⟩) hlt).trans (HC.out j u hu)) 0 k
        simp at h
        exact h
      have hlk' : (l.take k).length = k := by rw [List.length_take]; have := HN.out; omega
      go_wp2_with (first
        | (refine appT rfl (.tmp 36) (.tmp 39) rfl (w.heap.size + 1) (.slice none 0 0) [] rfl HOn ⟨b, off, none⟩ k _ (l.take k) rfl hlk' HN1 (by omega) k (by simp) (l.take k) rfl (by omega) hs0 ?_; intro g2 c2 w2 HOa hgx hax HBx; have HB2 : Hid (Below (w.heap.size + 1) (w.alloc (.cells #[.int .i64 x.t.k, .slice x.t.a x.t.len x.t.cap, .int .i64 x.t.n, .int .i64 x.t.s] 52)) w2) := HBr.out.trans HBx.out; clear hgx hax HBx HOn HN1; obtain ⟨z0, z1, z2, z3, z4⟩ := HAT.out w2 HB2.out; have HO2 : Hid (OwnTR (w2.alloc (.cells #[.int .i64 x.t.k, .slice x.t.a x.t.len x.t.cap, .int .i64 x.t.n, .int .i64 x.t.s] 52)) (w.heap.size + 1) (.slice (some ⟨g2, 0, none⟩) k c2) (l.take k)) := (HOa.out).below (bl_a _); have HN2 : Hid (∀ j u, (flat4 [x])[j]? = some u → (w2.alloc (.cells #[.int .i64 x.t.k, .slice x.t.a x.t.len x.t.cap, .int .i64 x.t.n, .int .i64 x.t.s] 52)).cell? ((⟨w2.heap.size, 0, none⟩ : Addr).add j) = some u) := one_term w2 x; have HB2a : Hid (Below (w.heap.size + 1) (w.alloc (.cells #[.int .i64 x.t.k, .slice x.t.a x.t.len x.t.cap, .int .i64 x.t.n, .int .i64 x.t.s] 52)) (w2.alloc (.cells #[.int .i64 x.t.k, .slice x.t.a x.t.len x.t.cap, .int .i64 x.t.n, .int .i64 x.t.s] 52))) := HB2.out.alloc (HSZ.out _ HB2.out) _; have hs2 := HSZ.out _ HB2a.out)
        | (refine appT rfl (.tmp 41) (.tmp 43) rfl (w.heap.size + 1) (.slice (some ⟨g2, 0, none⟩) k c2) (l.take k) rfl HO2 ⟨w2.heap.size, 0, none⟩ 1 1 [x] rfl rfl HN2 (by omega) (k + 1) (by simp; have := HN.out; omega) ((l.take k) ++ [x]) rfl (by omega) hs2 ?_; intro g3 c3 w3 HO3 hgx hax HBx; have HB3 : Hid (Below (w.heap.size + 1) (w.alloc (.cells #[.int .i64 x.t.k, .slice x.t.a x.t.len x.t.cap, .int .i64 x.t.n, .int .i64 x.t.s] 52)) w3) := HB2a.out.trans HBx.out; have hs3 := HSZ.out _ HB3.out; clear hgx hax HBx; have hc3 : (k + 1) ≤ c3 := ownTR_cap HO3.out (by simp; (try (have := HN.out; omega)))))
      all_goals
        go_ret
        refine ⟨_, l.take k ++ x :: l.drop k, rfl, HBM.out _ _ _ ?_, HW.out _ HB3.out, by simp; (try (have := HN.out; omega)), HP.out.1, HP.out.2.1, HP.out.2.2⟩
        have h := HO3.out
        rw [show l.drop k = [] from List.drop_eq_nil_of_le (by have := HN.out; omega)]
        first | exact h | simpa using h
end Go.Proofs.YtdcaicoomldmgaaGreatDoor
