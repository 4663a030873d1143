/- Marks in a store of the call's own: markStore, heldStore. -/
import Derived.Test.YtdcaicoomldmgaaGreatDoorDvStwC
namespace Go.Proofs.YtdcaicoomldmgaaGreatDoor
open Go.RowKit Go.Deep
set_option maxRecDepth 100000

/-- The blocks of a store's terms; of its rows. -/
def ST (vT : Value) (r : List TB) (b : Nat) : Prop := vT.ownBlock = some b ∨ ∃ y ∈ r, ∃ p, y.t.a = some p ∧ p.block = b
def SR (rbs : List RB) (b : Nat) : Prop := ∃ x ∈ rbs, x.v.ownBlock = some b
/-- Its terms are marked; its rows are marked from k on. -/
def MHT (w : World) (a : Option Addr) (r : List TB) : Prop := r.length = 0 ∨ ∃ g, a = some ⟨g, 0, none⟩ ∧ g < w.heap.size ∧ ∀ i, i < r.length → MdT w g (tA r) (tL r) (tC r) (posT (tL r) 1 i) i
def MHR (w : World) (a : Option Addr) (rbs : List RB) (k : Int) : Prop := rbs.length = 0 ∨ ∃ g, a = some ⟨g, 0, none⟩ ∧ g < w.heap.size ∧ (∀ i, i < rbs.length → w.cell? ⟨g, i, none⟩ = some (.slice (rA rbs i) (rL rbs i) (rC rbs i))) ∧ ∀ i, i < rbs.length → MdR w (rA rbs i) (rL rbs i) (posR (rL rbs) k i)
theorem MHT.below {w w' : World} {a : Option Addr} {r : List TB} (h : MHT w a r) (hb : Below w.heap.size w w') : MHT w' a r := by
  rcases h with h | ⟨g, ha, hg, hm⟩
  · exact .inl h
  · exact .inr ⟨g, ha, Nat.lt_of_lt_of_le hg hb.size, fun i hi => (hm i hi).below hg hb⟩
theorem MHR.below {w w' : World} {a : Option Addr} {rbs : List RB} {k : Int} (h : MHR w a rbs k) (hb : Below w.heap.size w w') : MHR w' a rbs k := by
  rcases h with h | ⟨g, ha, hg, hc, hm⟩
  · exact .inl h
  · exact .inr ⟨g, ha, Nat.lt_of_lt_of_le hg hb.size, fun i hi => (hb.cell (p := ⟨g, i, none⟩) hg).trans (hc i hi), fun i hi => (hm i hi).below hb⟩

theorem MarkedW.only {S : Nat → Prop} {w w' : World} {a : Option Addr} {len : Nat} {k : Int} (h : MarkedW w a len k) (ho : Only S w w') (hS : ∀ p, a = some p → ¬ S p.block) : MarkedW w' a len k := by
  rcases h with h | ⟨g, ha, hg, hc⟩
  · exact .inl h
  · exact .inr ⟨g, ha, by rw [ho.size]; exact hg, fun i hi => (ho.cell (p := ⟨g, i, none⟩) (hS ⟨g, 0, none⟩ ha)).trans (hc i hi)⟩
theorem MdT.only {S : Nat → Prop} {w w' : World} {g : Nat} {X : Nat → Option Addr} {L Cp : Nat → Nat} {q : Int} {i : Nat} (h : MdT w g X L Cp q i) (ho : Only S w w') (hg : ¬ S g) (hS : ∀ p, X i = some p → ¬ S p.block) : MdT w' g X L Cp q i := by
  have e : ∀ i, w'.cell? ⟨g, i, none⟩ = w.cell? ⟨g, i, none⟩ := fun i => ho.cell (p := ⟨g, i, none⟩) hg
  exact ⟨(e _).trans h.c0, (e _).trans h.c1, h.t.only ho hS, (e _).trans h.c2, (e _).trans h.c3⟩
theorem RwW.only {S : Nat → Prop} {w w' : World} {a : Option Addr} {n : Nat} (h : RwW w a n) (ho : Only S w w') (hS : ∀ p, a = some p → ¬ S p.block) : RwW w' a n := by
  refine ⟨h.1, ?_⟩
  rcases h.2 with h0 | ⟨g, ha, hl, hx, hw⟩
  · exact .inl h0
  · have hne := hS _ ha
    exact .inr ⟨g, ha, by rw [ho.size]; exact hl, fun i hi => by rw [ho.cell (p := ⟨g, i, none⟩) hne]; exact hx i hi, fun i hi => by rw [ho.frozen (p := ⟨g, i, none⟩) hne]; exact hw i hi⟩
theorem MS.only {S : Nat → Prop} {w w' : World} {g n : Nat} {X : Nat → Option Addr} {L Cp : Nat → Nat} (h : MS w g n X L Cp) (ho : Only S w w') (hg : ¬ S g) (hS : ∀ i, i < n → ∀ p, X i = some p → ¬ S p.block) : MS w' g n X L Cp :=
  ⟨fun i hi => (ho.cell (p := ⟨g, i, none⟩) hg).trans (h.sl i hi), fun i hi => (h.rw i hi).only ho (hS i hi), h.off, h.dis⟩

theorem OS.markT {w : World} {C H : Nat} {vT vR : Value} {r : List TB} {rbs : List RB} (h : OS w C H vT vR r rbs) : ∃ aT capT, vT = .slice aT r.length capT ∧
    Calls Tryz.prog 46 #[.slice aT r.length capT, .int .i64 1] w fun e w' => e = .returned (.int .i64 (posT (tL r) 1 r.length)) ∧ MHT w' aT r ∧ Only (ST vT r) w w' := by
  have hn := h.nr
  rcases h.ot.1.2 with ⟨rfl, h0⟩ | ⟨g, cap, cur, hv, hB, hc, hle, _, hsz, htk⟩
  · refine ⟨none, 0, by rw [h0], ?_⟩
    rw [h0]
    refine (markTermS_zero none 0 1 w).mono ?_
    rintro e w' ⟨rfl, rfl⟩
    exact ⟨rfl, .inl h0, Only.refl _ _⟩
  · refine ⟨_, cap, hv, ?_⟩
    have hg := (h.ot.2 g (by rw [hv]; rfl)).2
    rw [hv] at h
    have hm := h.mt
    have hp : ∀ i, i ≤ r.length → posT (tL r) 1 i ≤ 4194000 := fun i hi => by
      have := posT_bound (L := tL r) (k := 1) i (fun j hj => h.tlen j (by omega))
      omega
    refine (markTermS_any g r.length cap _ _ _ 1 w (by omega) (by omega) hp hm).mono ?_
    rintro e w' ⟨rfl, hd, ho⟩
    refine ⟨rfl, .inr ⟨g, rfl, by rw [ho.size]; exact hg, hd⟩, ho.imp fun b hb => ?_⟩
    rcases hb with rfl | ⟨i, hi, _, p, hp, rfl⟩
    · exact .inl (by rw [hv]; rfl)
    · obtain ⟨x, _, hx, e1, _⟩ := tAt hi
      exact .inr ⟨x, hx, p, by rw [← e1]; exact hp, rfl⟩

theorem OS.markR {w w1 : World} {C H : Nat} {vT vR : Value} {r : List TB} {rbs : List RB} (h : OS w C H vT vR r rbs) (ho : Only (ST vT r) w w1) (k : Int) (hk : 0 ≤ k) (hk2 : k ≤ 100000) : ∃ aR capR, vR = .slice aR rbs.length capR ∧
    Calls Tryz.prog 47 #[.slice aR rbs.length capR, .int .i64 k] w1 fun e w' => e = .returned (.int .i64 (posR (rL rbs) k rbs.length)) ∧ MHR w' aR rbs k ∧ Only (SR rbs) w1 w' := by
  have hn := h.ns
  rcases h.ov.1.2 with ⟨rfl, h0⟩ | ⟨g, cap, cur, hv, hB, hc, hle, _, hsz, htk⟩
  · rw [List.length_map] at h0
    refine ⟨none, 0, by rw [h0], ?_⟩
    rw [h0]
    refine (markRowSS_zero none 0 k w1).mono ?_
    rintro e w' ⟨rfl, rfl⟩
    exact ⟨rfl, .inl h0, Only.refl _ _⟩
  · rw [List.length_map] at hv
    refine ⟨_, cap, hv, ?_⟩
    have hg := (h.ov.2 g (by rw [hv]; rfl)).2
    rw [hv] at h
    have hm := h.ms.only ho (fun e => by
        rcases e with e | ⟨y, hy, p, hp, e⟩
        · exact (h.tv g rfl).1 e
        · exact (h.tv g rfl).2 y hy p hp e)
      (fun i hi p hp e => by
        obtain ⟨x, _, hx, e1, _⟩ := rAt hi
        rw [e1] at hp
        rcases e with e | ⟨y, hy, q, hq, e⟩
        · exact (h.tr x hx p.block (RB.own hp)).1 e
        · exact (h.tr x hx p.block (RB.own hp)).2 y hy q hq e)
    have hp : ∀ i, i ≤ rbs.length → posR (rL rbs) k i ≤ 4194000 := fun i hi => by
      have := posR_bound (L := rL rbs) (k := k) i (fun j hj => h.rlen j (by omega))
      omega
    refine (markRowSS_any g rbs.length cap _ _ _ k w1 (by omega) (by omega) hp hm).mono ?_
    rintro e w' ⟨rfl, hd, hs, ho'⟩
    refine ⟨rfl, .inr ⟨g, rfl, by rw [ho'.size, ho.size]; exact hg, hs.sl, hd⟩, ho'.imp fun b hb => ?_⟩
    obtain ⟨i, hi, _, p, hp, rfl⟩ := hb
    obtain ⟨x, _, hx, e1, _⟩ := rAt hi
    exact ⟨x, hx, RB.own (by rw [← e1]; exact hp)⟩

theorem MHT.only {w w' : World} {C H : Nat} {vR : Value} {a : Option Addr} {cap : Nat} {W : World} {r : List TB} {rbs : List RB} (h : MHT w a r) (hO : OS W C H (.slice a r.length cap) vR r rbs) (ho : Only (SR rbs) w w') : MHT w' a r := by
  rcases h with h | ⟨g, rfl, hg, hm⟩
  · exact .inl h
  · refine .inr ⟨g, rfl, by rw [ho.size]; exact hg, fun i hi => (hm i hi).only ho ?_ (fun p hp e => ?_)⟩
    · rintro ⟨x, hx, e⟩
      exact (hO.tr x hx g e).1 rfl
    · obtain ⟨y, _, hy, e1, _⟩ := tAt hi
      rw [e1] at hp
      obtain ⟨x, hx, e⟩ := e
      exact (hO.tr x hx _ e).2 y hy p hp rfl

theorem Only.mid {S : Nat → Prop} {B C : Nat} {w w' : World} (h : Only S w w') (hS : ∀ b, S b → B ≤ b ∧ b < C) : Mid B C w w' :=
  ⟨h.os, h.tape, h.output, h.size, fun b hb => h.block b (fun e => by have := hS b e; omega)⟩
theorem Mid.trans {B C : Nat} {w w1 w2 : World} (h : Mid B C w w1) (k : Mid B C w1 w2) : Mid B C w w2 :=
  ⟨k.os.trans h.os, k.tape.trans h.tape, k.output.trans h.output, k.size.trans h.size, fun b hb => (k.block b hb).trans (h.block b hb)⟩

/-- How many marks there are. -/
def marksOf (r : List TB) (rbs : List RB) : Int := posR (rL rbs) (posT (tL r) 1 r.length) rbs.length
theorem marks_pos (r : List TB) (rbs : List RB) : 1 ≤ marksOf r rbs := Int.le_trans (posT_le (tL r) 1 r.length) (posR_le _ _ _)

set_option maxHeartbeats 2000000 in
theorem markStore_any {C H : Nat} {vT vR : Value} {r : List TB} {rbs : List RB} (w : World) (h : OS w C H vT vR r rbs) :
    ∃ aT capT aR capR, vT = .slice aT r.length capT ∧ vR = .slice aR rbs.length capR ∧ Calls Tryz.prog 14 #[.agg #[.slice aT r.length capT, .slice aR rbs.length capR], .int .i64 1] w fun e w' =>
      e = .returned (.int .i64 (marksOf r rbs)) ∧ MHT w' aT r ∧ MHR w' aR rbs (posT (tL r) 1 r.length) ∧ ∃ o, Mid C H (w.alloc o) w' := by
  obtain ⟨aT, capT, aR, capR, rfl, rfl, _⟩ := h.arg
  refine ⟨aT, capT, aR, capR, rfl, rfl, ?_⟩
  obtain ⟨n, hn⟩ : ∃ n, n = r.length := ⟨_, rfl⟩
  obtain ⟨m, hm⟩ : ∃ m, m = rbs.length := ⟨_, rfl⟩
  have hq0 := posT_le (tL r) 1 r.length
  have hq1 : posT (tL r) 1 r.length ≤ 100000 := by
    have := posT_bound (L := tL r) (k := 1) r.length (fun j hj => h.tlen j hj)
    have := h.nr
    omega
  have HO : Hid (∀ o, OS (w.alloc o) C H (.slice aT r.length capT) (.slice aR rbs.length capR) r rbs) := fun o => h.below (bl_a o)
  have HT : Hid (∀ o, Calls Tryz.prog 46 #[.slice aT r.length capT, .int .i64 1] (w.alloc o) fun e w' => e = .returned (.int .i64 (posT (tL r) 1 r.length)) ∧ MHT w' aT r ∧ Only (ST (.slice aT r.length capT) r) (w.alloc o) w') := fun o => by
    obtain ⟨a', c', e, hc⟩ := (HO.out o).markT
    simp only [Value.slice.injEq] at e
    obtain ⟨rfl, _, rfl⟩ := e
    exact hc
  have HR : Hid (∀ o w1, Only (ST (.slice aT r.length capT) r) (w.alloc o) w1 → Calls Tryz.prog 47 #[.slice aR rbs.length capR, .int .i64 (posT (tL r) 1 r.length)] w1 fun e w' => e = .returned (.int .i64 (marksOf r rbs)) ∧ MHR w' aR rbs (posT (tL r) 1 r.length) ∧ Only (SR rbs) w1 w') := fun o w1 ho => by
    obtain ⟨a', c', e, hc⟩ := (HO.out o).markR ho (posT (tL r) 1 r.length) (by omega) hq1
    simp only [Value.slice.injEq] at e
    obtain ⟨rfl, _, rfl⟩ := e
    exact hc
  have HST : Hid (∀ b, ST (.slice aT r.length capT) r b → C ≤ b ∧ b < H) := fun b hb => by
    rcases hb with hb | ⟨y, hy, p, hp, rfl⟩
    · exact ⟨(h.ot.2 b hb).1, h.h1 b hb⟩
    · exact ⟨((h.oy y hy).2.1 p hp).1, h.h2 y hy p hp⟩
  have HSR : Hid (∀ b, SR rbs b → C ≤ b ∧ b < H) := fun b ⟨x, hx, e⟩ => ⟨((h.rr x hx).2 b e).1, h.h4 x hx b e⟩
  have hHw := h.hh.2
  have HFIN : Hid (∀ o w1 w2, MHT w1 aT r → Only (SR rbs) w1 w2 → MHT w2 aT r) := fun o w1 w2 h1 h2 => h1.only (HO.out o) h2
  obtain ⟨q, hq⟩ : ∃ q, q = posT (tL r) 1 r.length := ⟨_, rfl⟩
  rw [← hq] at HT HR hq0 hq1 ⊢
  rw [← hn] at HT HR HST HO ⊢
  rw [← hm] at HR HO ⊢
  clear h hn hm hq
  go_enter Tryz.func14, Tryz.ntmps14
  go_wp2_with fail
  refine (HT.out _).mono ?_
  rintro e w1 ⟨rfl, hm1, ho1⟩
  have HM1 : Hid (MHT w1 aT r) := hm1
  have HO1 : Hid (Only (ST (.slice aT n capT) r) (w.alloc (.cells #[.slice aT n capT, .slice aR m capR] 29)) w1) := ho1
  have c1 : w1.cell? ⟨w.heap.size, 1, none⟩ = some (.slice aR m capR) := (ho1.cell (p := ⟨w.heap.size, 1, none⟩) (fun e => by have := (HST.out _ e).2; have e2 : (w.heap.size : Nat) < H := this; omega)).trans (by simp [go_sem])
  have c0 : w.heap.size < w1.heap.size := by rw [ho1.size]; simp
  have hR := HR.out _ w1 ho1
  clear hm1 ho1
  go_wp2_with fail
  refine hR.mono ?_
  rintro e w2 ⟨rfl, hm2, ho2⟩
  have HM2 : Hid (MHR w2 aR rbs q) := hm2
  have HO2 : Hid (Only (SR rbs) w1 w2) := ho2
  clear hm2 ho2 hR
  go_wp2_with fail
  go_ret
  exact ⟨rfl, HFIN.out (.cells #[] 0) w1 w2 HM1.out HO2.out, HM2.out, _, (HO1.out.mid HST.out).trans (HO2.out.mid HSR.out)⟩

set_option maxHeartbeats 2000000 in
theorem heldStore_any (aT aR : Option Addr) (capT capR : Nat) (r : List TB) (rbs : List RB) (w : World) (hT : MHT w aT r) (hR : MHR w aR rbs (posT (tL r) 1 r.length)) (hn : r.length ≤ 180) (hm : rbs.length ≤ 6) (hl : ∀ i, i < r.length → tL r i ≤ 30) (hl2 : ∀ i, i < rbs.length → rL rbs i ≤ 60) :
    Calls Tryz.prog 15 #[.agg #[.slice aT r.length capT, .slice aR rbs.length capR], .int .i64 1] w fun e w' => e = .returned (.int .i64 (marksOf r rbs)) ∧ Below w.heap.size w w' := by
  have hq0 := posT_le (tL r) 1 r.length
  have hq1 : posT (tL r) 1 r.length ≤ 100000 := by
    have := posT_bound (L := tL r) (k := 1) r.length (fun j hj => hl j hj)
    omega
  have hM0 := marks_pos r rbs
  have HT : Hid (∀ W, Below w.heap.size w W → Calls Tryz.prog 48 #[.slice aT r.length capT, .int .i64 1] W fun e w' => e = .returned (.int .i64 (posT (tL r) 1 r.length)) ∧ w' = W) := fun W hb => by
    rcases hT.below hb with h0 | ⟨g, rfl, hg, hd⟩
    · rw [h0]
      exact heldTermS_zero aT capT 1 W
    · exact heldTermS_any g r.length capT _ _ _ 1 W (by omega) (by omega) (fun i hi => by
        have := posT_bound (L := tL r) (k := 1) i (fun j hj => hl j (by omega))
        omega) (fun i hi => by have := hl i hi; omega) hd
  have HR : Hid (∀ W, Below w.heap.size w W → Calls Tryz.prog 49 #[.slice aR rbs.length capR, .int .i64 (posT (tL r) 1 r.length)] W fun e w' => e = .returned (.int .i64 (marksOf r rbs)) ∧ w' = W) := fun W hb => by
    rcases hR.below hb with h0 | ⟨g, rfl, hg, hc, hd⟩
    · have e : marksOf r rbs = posT (tL r) 1 r.length := by unfold marksOf; rw [h0]; rfl
      rw [h0, e]
      exact heldRowSS_zero aR capR _ W
    · exact heldRowSS_any g rbs.length capR _ _ _ _ W (by omega) (by omega) (fun i hi => by
        have := posR_bound (L := rL rbs) (k := posT (tL r) 1 r.length) i (fun j hj => hl2 j (by omega))
        omega) (fun i hi => by have := hl2 i hi; omega) hc hd
  generalize marksOf r rbs = M at *
  generalize posT (tL r) 1 r.length = q at *
  generalize r.length = n at *
  generalize rbs.length = m at *
  clear hT hR hl hl2
  go_enter Tryz.func15, Tryz.ntmps15
  go_wp2_with fail
  refine (HT.out _ (bl_a _)).mono ?_
  rintro e w1 ⟨rfl, rfl⟩
  go_wp2_with fail
  refine (HR.out _ (bl_a _)).mono ?_
  rintro e w2 ⟨rfl, rfl⟩
  go_wp2_with fail
  go_ret
  exact ⟨rfl, bl_a _⟩
end Go.Proofs.YtdcaicoomldmgaaGreatDoor
