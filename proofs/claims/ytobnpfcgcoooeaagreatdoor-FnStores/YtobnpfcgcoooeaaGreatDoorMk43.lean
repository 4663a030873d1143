/- Texts put together: StxD StxE StxF StvE -/
import Derived.Test.YtobnpfcgcoooeaaGreatDoorMk38
import Derived.Test.YtobnpfcgcoooeaaGreatDoorMk42
import Derived.Test.YtobnpfcgcoooeaaGreatDoorMk03
import Derived.Test.YtobnpfcgcoooeaaGreatDoorMk02
import Derived.Lib.QuietBelow
import Derived.Test.YtobnpfcgcoooeaaGreatDoorMk05
import Derived.Deep.Cut
import Derived.Test.YtobnpfcgcoooeaaGreatDoorMk13
import Derived.Test.YtobnpfcgcoooeaaGreatDoorMk36
/- StxD -/
namespace Go.Proofs.YtobnpfcgcoooeaaGreatDoor
open Go.RowKit Go.Deep
set_option maxRecDepth 100000

/-- There lies a number. -/
def I64 (w : World) (b j : Nat) : Prop := ∃ v, w.cell? ⟨b, j, none⟩ = some (.int .i64 v)
/-- Bytes, numbers, lists stay such, and what may be written may be. -/
structure K3 (w w' : World) : Prop where
  u : ∀ b j, U8 w b j → U8 w' b j
  i : ∀ b j, I64 w b j → I64 w' b j
  s : ∀ b j a l c, w.cell? ⟨b, j, none⟩ = some (.slice a l c) → w'.cell? ⟨b, j, none⟩ = some (.slice a l c)
  f : ∀ p, w'.frozen? p = w.frozen? p
theorem K3.refl (w : World) : K3 w w := ⟨fun _ _ h => h, fun _ _ h => h, fun _ _ _ _ _ h => h, fun _ => rfl⟩
theorem K3.trans {w w' w'' : World} (h : K3 w w') (k : K3 w' w'') : K3 w w'' := ⟨fun b j q => k.u b j (h.u b j q), fun b j q => k.i b j (h.i b j q), fun b j a l c q => k.s b j a l c (h.s b j a l c q), fun p => (k.f p).trans (h.f p)⟩
theorem K3.set {w : World} {g i : Nat} {n : Int} (h : I64 w g i) : K3 w (w.setCell ⟨g, i, none⟩ (.int .i64 n)) := by
  obtain ⟨v, hv⟩ := h
  refine ⟨fun b j hu => ?_, fun b j hu => ?_, fun b j a l c hu => ?_, fun p => World.frozen?_setCell _ _ _ _⟩
  · by_cases e : b = g ∧ j = i
    · obtain ⟨rfl, rfl⟩ := e
      obtain ⟨u, hu⟩ := hu
      rw [hv] at hu
      cases hu
    · unfold U8
      rw [cell_set_other (by omega)]
      exact hu
  · by_cases e : b = g ∧ j = i
    · obtain ⟨rfl, rfl⟩ := e
      exact ⟨_, set_same hv⟩
    · unfold I64
      rw [cell_set_other (by omega)]
      exact hu
  · by_cases e : b = g ∧ j = i
    · obtain ⟨rfl, rfl⟩ := e
      rw [hv] at hu
      cases hu
    · rw [cell_set_other (by omega)]
      exact hu
/-- A text that may be marked, in the blocks from B on and below C. -/
def TxK (B C : Nat) (w : World) (a : Option Addr) (len : Nat) : Prop := len ≤ 1048576 ∧ (len = 0 ∨ ∃ g, a = some ⟨g, 0, none⟩ ∧ B ≤ g ∧ g < C ∧ ∀ i, i < len → U8 w g i ∧ w.frozen? ⟨g, i, none⟩ = false)
/-- A row of terms that may be marked. -/
def TsK (B C : Nat) (w : World) (a : Option Addr) (n : Nat) (X : Nat → Option Addr) (L Cp : Nat → Nat) : Prop := n = 0 ∨ ∃ g, a = some ⟨g, 0, none⟩ ∧ B ≤ g ∧ g < C ∧
  ∀ i, i < n → (I64 w g (i * 4) ∧ w.cell? ⟨g, i * 4 + 1, none⟩ = some (.slice (X i) (L i) (Cp i)) ∧ I64 w g (i * 4 + 2) ∧ I64 w g (i * 4 + 3)) ∧ (w.frozen? ⟨g, i * 4, none⟩ = false ∧ w.frozen? ⟨g, i * 4 + 2, none⟩ = false ∧ w.frozen? ⟨g, i * 4 + 3, none⟩ = false) ∧ TxK B C w (X i) (L i)
/-- Rows of numbers that may be marked. -/
def RsK (B C : Nat) (w : World) (a : Option Addr) (n : Nat) : Prop := n ≤ 1048576 ∧ (n = 0 ∨ ∃ g, a = some ⟨g, 0, none⟩ ∧ B ≤ g ∧ g < C ∧ ∀ j, j < n * 3 → I64 w g j ∧ w.frozen? ⟨g, j, none⟩ = false)
/-- A row of rows that may be marked. -/
def SsK (B C : Nat) (w : World) (a : Option Addr) (n : Nat) (X : Nat → Option Addr) (L Cp : Nat → Nat) : Prop := n = 0 ∨ ∃ g, a = some ⟨g, 0, none⟩ ∧ g < C ∧ ∀ i, i < n → w.cell? ⟨g, i, none⟩ = some (.slice (X i) (L i) (Cp i)) ∧ RsK B C w (X i) (L i)
/-- What may be marked stays so where nothing below C changes; and in a wider bound. -/
theorem TxK.below {B C C' : Nat} {w w' : World} {a : Option Addr} {len : Nat} (h : TxK B C w a len) (hb : Below C w w') (hC : C ≤ C') : TxK B C' w' a len := by
  refine ⟨h.1, ?_⟩
  rcases h.2 with h | ⟨g, ha, h1, h2, hx⟩
  · exact .inl h
  · refine .inr ⟨g, ha, h1, by omega, fun i hi => ?_⟩
    unfold U8
    rw [hb.cell (p := ⟨g, i, none⟩) h2, hb.frozen (p := ⟨g, i, none⟩) h2]
    exact hx i hi
theorem TsK.below {B C C' : Nat} {w w' : World} {a : Option Addr} {n : Nat} {X : Nat → Option Addr} {L Cp : Nat → Nat} (h : TsK B C w a n X L Cp) (hb : Below C w w') (hC : C ≤ C') : TsK B C' w' a n X L Cp := by
  rcases h with h | ⟨g, ha, h1, h2, hx⟩
  · exact .inl h
  · refine .inr ⟨g, ha, h1, by omega, fun i hi => ?_⟩
    have e : ∀ j, w'.cell? ⟨g, j, none⟩ = w.cell? ⟨g, j, none⟩ := fun j => hb.cell (p := ⟨g, j, none⟩) h2
    have f : ∀ j, w'.frozen? ⟨g, j, none⟩ = w.frozen? ⟨g, j, none⟩ := fun j => hb.frozen (p := ⟨g, j, none⟩) h2
    unfold I64
    simp only [e, f]
    exact ⟨(hx i hi).1, (hx i hi).2.1, (hx i hi).2.2.below hb hC⟩
theorem RsK.below {B C C' : Nat} {w w' : World} {a : Option Addr} {n : Nat} (h : RsK B C w a n) (hb : Below C w w') (hC : C ≤ C') : RsK B C' w' a n := by
  refine ⟨h.1, ?_⟩
  rcases h.2 with h | ⟨g, ha, h1, h2, hx⟩
  · exact .inl h
  · refine .inr ⟨g, ha, h1, by omega, fun i hi => ?_⟩
    unfold I64
    rw [hb.cell (p := ⟨g, i, none⟩) h2, hb.frozen (p := ⟨g, i, none⟩) h2]
    exact hx i hi
theorem SsK.below {B C C' : Nat} {w w' : World} {a : Option Addr} {n : Nat} {X : Nat → Option Addr} {L Cp : Nat → Nat} (h : SsK B C w a n X L Cp) (hb : Below C w w') (hC : C ≤ C') : SsK B C' w' a n X L Cp := by
  rcases h with h | ⟨g, ha, h2, hx⟩
  · exact .inl h
  · exact .inr ⟨g, ha, by omega, fun i hi => ⟨(hb.cell (p := ⟨g, i, none⟩) h2).trans (hx i hi).1, (hx i hi).2.below hb hC⟩⟩
end Go.Proofs.YtobnpfcgcoooeaaGreatDoor

/- StxE -/
namespace Go.Proofs.YtobnpfcgcoooeaaGreatDoor
open Go.RowKit Go.Deep
set_option maxRecDepth 100000

theorem Tryz.info3 : (Tryz.prog.info? 3).map (fun i => (i.zero, i.size, i.bytes)) = some (some (.int .i64 0), 1, 8) := by kernel_rfl
/-- Keys of the call's own. -/
structure KO (w : World) (g : Nat) (ks : List Int) : Prop where
  lt : g < w.heap.size
  at_ : ∀ i, i < ks.length → w.cell? ⟨g, i, none⟩ = some (.int .i64 (ks[i]?.getD 0))
  fr : ∀ i, i < ks.length → w.frozen? ⟨g, i, none⟩ = false
theorem KO.below {w w' : World} {g : Nat} {ks : List Int} (h : KO w g ks) (hb : Below w.heap.size w w') : KO w' g ks :=
  ⟨Nat.lt_of_lt_of_le h.lt hb.size, fun i hi => (hb.cell (p := ⟨g, i, none⟩) h.lt).trans (h.at_ i hi), fun i hi => (hb.frozen (p := ⟨g, i, none⟩) h.lt).trans (h.fr i hi)⟩
/-- Keys that came in. -/
def KIn (w : World) (a : Option Addr) (ks : List Int) : Prop := ks.length = 0 ∨ ∃ b off, a = some ⟨b, off, none⟩ ∧ b < w.heap.size ∧ Ints w b off ks
theorem KIn.below {w w' : World} {a : Option Addr} {ks : List Int} (h : KIn w a ks) (hb : Below w.heap.size w w') : KIn w' a ks := by
  rcases h with h | ⟨b, off, e, hl, hc⟩
  · exact .inl h
  · exact .inr ⟨b, off, e, Nat.lt_of_lt_of_le hl hb.size, fun j hj => (hb.cell (p := ⟨b, off + j, none⟩) hl).trans (hc j hj)⟩
end Go.Proofs.YtobnpfcgcoooeaaGreatDoor

/- StxF -/
namespace Go.Proofs.YtobnpfcgcoooeaaGreatDoor
open Go.RowKit Go.Deep
set_option maxRecDepth 100000

/-- A struct of two fields at the head of block b. -/
def Bx2 (w : World) (b : Nat) (v0 v1 : Value) : Prop := w.cell? ⟨b, 0, none⟩ = some v0 ∧ w.cell? ⟨b, 1, none⟩ = some v1 ∧ b < w.heap.size
theorem Bx2.below {w w' : World} {b : Nat} {v0 v1 : Value} (h : Bx2 w b v0 v1) (hb : Below w.heap.size w w') : Bx2 w' b v0 v1 :=
  ⟨(hb.cell (p := ⟨b, 0, none⟩) h.2.2).trans h.1, (hb.cell (p := ⟨b, 1, none⟩) h.2.2).trans h.2.1, Nat.lt_of_lt_of_le h.2.2 hb.size⟩
theorem Bx2.new (w : World) (v0 v1 : Value) (t : TypeId) : Bx2 (w.alloc (.cells #[v0, v1] t)) w.heap.size v0 v1 := by
  refine ⟨?_, ?_, by simp⟩ <;> simp [go_sem]

/-- What a scan tells. -/
def ScanAns (tb : List TB) (rs : List (List (Int × Int × Int))) (order : Int) (ks : List Int) (L : List (Int × Int × Int)) : Prop :=
  (Good tb rs ∧ 0 ≤ order ∧ order ≤ 5 ∧ ks.length ≤ 3 ∧ ∃ l, rs[order.toNat]? = some l ∧ L = scanL order.toNat ks l) ∨ (¬ (Good tb rs ∧ 0 ≤ order ∧ order ≤ 5 ∧ ks.length ≤ 3) ∧ L = [])
theorem ScanAns.unique {tb : List TB} {rs : List (List (Int × Int × Int))} {order : Int} {ks : List Int} {L L' : List (Int × Int × Int)} (h : ScanAns tb rs order ks L) (h' : ScanAns tb rs order ks L') : L = L' := by
  rcases h with ⟨g, h1, h2, h3, l, hl, rfl⟩ | ⟨hn, rfl⟩
  · rcases h' with ⟨_, _, _, _, l', hl', rfl⟩ | ⟨hn, _⟩
    · rw [hl] at hl'
      cases hl'
      rfl
    · exact absurd ⟨g, h1, h2, h3⟩ hn
  · rcases h' with ⟨g, h1, h2, h3, _⟩ | ⟨_, rfl⟩
    · exact absurd ⟨g, h1, h2, h3⟩ hn
    · rfl
theorem ScanAns.td {tb tb' : List TB} {rs : List (List (Int × Int × Int))} {order : Int} {ks : List Int} {L : List (Int × Int × Int)} (hg : Good tb' rs ↔ Good tb rs) (h : ScanAns tb' rs order ks L) : ScanAns tb rs order ks L := by
  unfold ScanAns at h ⊢
  rw [hg] at h
  exact h
/-- What the two functions answer. -/
def ScRes (w : World) (P : List (Int × Int × Int) → Prop) (e : Ending) (w' : World) : Prop := ∃ a cap L, e = .returned (.slice a (List.length L) cap) ∧ P L ∧ OwnRR w' w.heap.size (.slice a L.length cap) L ∧ L.length ≤ 1048576 ∧ Below w.heap.size w w'
theorem ScRes.nil {w w' : World} {P : List (Int × Int × Int) → Prop} (h : P []) (hb : Below w.heap.size w w') : ScRes w P (.returned (.slice none 0 0)) w' := ⟨none, 0, [], rfl, h, OwnRR.nil _ _, by simp, hb⟩
theorem ScRes.of {w w1 w' : World} {P : List (Int × Int × Int) → Prop} {L : List (Int × Int × Int)} {e : Ending} (h : ScanRes w1 L e w') (hP : P L) (hl : L.length ≤ 1048576) (hb : Below w.heap.size w w1) : ScRes w P e w' := by
  obtain ⟨a, cap, rfl, ho, hb2⟩ := h
  exact ⟨a, cap, L, rfl, hP, ho.base hb.size, hl, bl_trans hb hb2⟩
theorem scanL_len (o : Nat) (ks : List Int) (l : List (Int × Int × Int)) : (scanL o ks l).length ≤ l.length := List.length_filter_le _ _

set_option maxHeartbeats 4000000 in
theorem implScan_any (aT aR : Option Addr) (capT capR : Nat) (tb : List TB) (rbs : List RB) (order : Int) (pk : Option Addr) (capK : Nat) (ks : List Int) (w : World) (h : SArg w aT tb aR rbs) (hcap : ∀ x ∈ rbs, x.l.length ≤ x.cap) (hkn : ks.length ≤ 1048576) (hI : KIn w pk ks) (ht : Tab w) :
    Calls Tryz.prog 9 #[.agg #[.slice aT tb.length capT, .slice aR rbs.length capR], .int .i64 order, .slice pk ks.length capK] w (ScRes w (ScanAns tb (rbs.map RB.l) order ks)) := by
  have hO := fun o => implStoreOk_any aT aR capT capR tb rbs (w.alloc o) (h.below (bl_a o)) (ht.below (bl_a o))
  have HS : Hid (SArg w aT tb aR rbs) := h
  have HC : Hid (∀ x ∈ rbs, x.l.length ≤ x.cap) := hcap
  have HI : Hid (KIn w pk ks) := hI
  obtain ⟨P, hP⟩ : ∃ P, P = ScanAns tb (rbs.map RB.l) order ks := ⟨_, rfl⟩
  have HP : Hid (P = ScanAns tb (rbs.map RB.l) order ks) := hP
  obtain ⟨nT, hnT⟩ : ∃ nT, nT = tb.length := ⟨_, rfl⟩
  obtain ⟨nR, hnR⟩ : ∃ nR, nR = rbs.length := ⟨_, rfl⟩
  obtain ⟨k, hk⟩ : ∃ k, k = ks.length := ⟨_, rfl⟩
  have HNR : Hid (nR = rbs.length) := hnR
  have HK : Hid (k = ks.length) := hk
  rw [← hP, ← hnT, ← hnR, ← hk]
  rw [← hnT, ← hnR] at hO
  rw [← hk] at hkn
  clear h hcap hI ht hP hnT hnR hk
  go_enter Tryz.func9, Tryz.ntmps9
  go_wp2_with fail
  refine (hO _).mono ?_
  rintro e w1 ⟨q, rfl, hq, hb1⟩
  have HQ : Hid (q = true ↔ Good tb (rbs.map RB.l)) := hq
  have HBX : Hid (Bx2 w1 w.heap.size (.slice aT nT capT) (.slice aR nR capR)) := (Bx2.new w _ _ 30).below hb1
  have HB1 : Hid (Below w.heap.size w w1) := bl_trans (bl_a _) hb1
  clear hO hq hb1
  cases q
  · have hno : P [] := by
      rw [HP.out]
      exact .inr ⟨fun g => (by have := HQ.out.2 g.1; cases this), rfl⟩
    have HNO : Hid (P []) := hno
    clear hno
    go_wp2_with fail
    go_ret
    exact ScRes.nil HNO.out HB1.out
  · by_cases hin : 0 ≤ order ∧ order ≤ 5
    · obtain ⟨hin0, hin5⟩ := hin
      have hW : ∀ W, Calls Tryz.prog 29 #[.int .i64 order, .int .i64 0, .int .i64 5] W fun e w' => e = .returned (.bool true) ∧ w' = W := fun W => by
        have := within_any order 0 5 W
        rw [decide_eq_true hin0, decide_eq_true hin5] at this
        exact this
      by_cases hk3 : k ≤ 3
      · obtain ⟨o, ho, ho6⟩ : ∃ o : Nat, order = o ∧ o < 6 := ⟨order.toNat, by omega, by omega⟩
        subst ho
        have hk3z : ¬ (k : Int) > 3 := by omega
        have hg : Good tb (rbs.map RB.l) := HQ.out.1 (by simp)
        have h6 : rbs.length = 6 := by have := hg.six; simpa using this
        obtain ⟨x, hx⟩ : ∃ x, rbs[o]? = some x := ⟨_, List.getElem?_eq_getElem (by omega)⟩
        have hxm := List.mem_of_getElem? hx
        have hS1 := HS.out.below HB1.out
        have hrow := hg.row o x.l (by rw [List.getElem?_map, hx]; rfl)
        have hSC := scan_any o x.a x.cap x.l pk capK ks w1 ho6 (hS1.hold x hxm).2 (HC.out x hxm) (by rw [← HK.out]; exact hk3) (hS1.hold x hxm).1 (by
          rcases HI.out.below HB1.out with e | e
          · exact .inl e
          · exact .inr e) hrow.asc
        rw [← HK.out] at hSC
        obtain ⟨bR, oR, ea, hbR, hcR⟩ := hS1.srow.resolve_left (fun e => by rw [e] at h6; simp at h6)
        have hc := hcR o x hx
        subst ea
        have hPL : P (scanL o ks x.l) := by
          rw [HP.out]
          exact .inl ⟨hg, by omega, by omega, by rw [← HK.out]; exact hk3, x.l, by rw [List.getElem?_map]; simp [hx], by simp⟩
        have HPL : Hid (P (scanL o ks x.l)) := hPL
        have HLN : Hid ((scanL o ks x.l).length ≤ 1048576) := Nat.le_trans (scanL_len _ _ _) (hS1.hold x hxm).2
        have hn6 : nR = 6 := by rw [HNR.out]; exact h6
        subst hn6
        have hoz : (o : Int) < 6 := by omega
        obtain ⟨c0, c1, c2⟩ := id HBX.out
        clear hg hS1 hrow hcR hPL h6 hx hxm hin0 hin5
        generalize x.l.length = m at *
        go_wp2_with (first | (go_at_call 29; refine (hW _).mono ?_; rintro e w2 ⟨rfl, rfl⟩))
        refine hSC.mono ?_
        intro e w3 hr
        have hr' := ScRes.of (P := P) hr HPL.out HLN.out HB1.out
        clear hr hSC
        obtain ⟨a', c', L', rfl, hres⟩ := hr'
        have HRES : Hid (P L' ∧ OwnRR w3 w.heap.size (.slice a' L'.length c') L' ∧ L'.length ≤ 1048576 ∧ Below w.heap.size w w3) := hres
        clear hres
        go_wp2_with fail
        go_ret
        exact ⟨a', c', L', rfl, HRES.out⟩
      · have hk3z : (k : Int) > 3 := by omega
        have HNO : Hid (P []) := by
          show P []
          rw [HP.out]
          exact .inr ⟨fun g => hk3 (by rw [HK.out]; exact g.2.2.2), rfl⟩
        go_wp2_with (first | (go_at_call 29; refine (hW _).mono ?_; rintro e w2 ⟨rfl, rfl⟩))
        go_ret
        exact ScRes.nil HNO.out HB1.out
    · have hW : ∀ W, Calls Tryz.prog 29 #[.int .i64 order, .int .i64 0, .int .i64 5] W fun e w' => e = .returned (.bool false) ∧ w' = W := fun W => by
        have h := within_any order 0 5 W
        have e : (decide (0 ≤ order) && decide (order ≤ 5)) = false := by
          by_cases h0 : 0 ≤ order
          · have : ¬ order ≤ 5 := fun h5 => hin ⟨h0, h5⟩
            simp [this]
          · simp [h0]
        rw [e] at h
        exact h
      have HNO : Hid (P []) := by
        show P []
        rw [HP.out]
        exact .inr ⟨fun g => hin ⟨g.2.1, g.2.2.1⟩, rfl⟩
      clear hin
      go_wp2_with (first | (go_at_call 29; refine (hW _).mono ?_; rintro e w2 ⟨rfl, rfl⟩))
      go_ret
      exact ScRes.nil HNO.out HB1.out

end Go.Proofs.YtobnpfcgcoooeaaGreatDoor

/- StvE -/
namespace Go.Proofs.YtobnpfcgcoooeaaGreatDoor
open Go.RowKit Go.Deep Go.Maps
set_option maxRecDepth 100000

/-- What IdOf answers. -/
def IdRes (w : World) (tb : List TB) (rbs : List RB) (x : TB) (e : Ending) (w' : World) : Prop :=
  ∃ r : Int, e = .returned (.int .i64 r) ∧ ((Good tb (rbs.map RB.l) ∧ x.td.ok = true) → r = (idOf (tb.map TB.td) x.td : Nat)) ∧ (¬ (Good tb (rbs.map RB.l) ∧ x.td.ok = true) → r = 0) ∧ Below w.heap.size w w'

set_option maxHeartbeats 4000000 in
theorem implIdOf_any (aT aR : Option Addr) (capT capR : Nat) (tb : List TB) (rbs : List RB) (x : TB) (w : World) (h : SArg w aT tb aR rbs) (hf : x.t.fits) (hx : Bs w x.t.a x.t.len x.b) (ht : Tab w) :
    Calls Tryz.prog 10 #[.agg #[.slice aT tb.length capT, .slice aR rbs.length capR], .agg #[.int .i64 x.t.k, .slice x.t.a x.t.len x.t.cap, .int .i64 x.t.n, .int .i64 x.t.s]] w (IdRes w tb rbs x) := by
  have HTab : Hid (Tab w) := ht
  have HSA : Hid (SArg w aT tb aR rbs) := h
  have HXF : Hid (x.t.fits) := hf
  have HXB : Hid (Bs w x.t.a x.t.len x.b) := hx
  obtain ⟨nT, hnT⟩ : ∃ nT, nT = tb.length := ⟨_, rfl⟩
  have HNT : Hid (nT = tb.length) := hnT
  obtain ⟨nR, hnR⟩ : ∃ nR, nR = rbs.length := ⟨_, rfl⟩
  have hS := fun (W : World) (hW : Below w.heap.size w W) => implStoreOk_any aT aR capT capR tb rbs W (h.below hW) (ht.below hW)
  rw [← hnT, ← hnR] at hS
  rw [← hnT, ← hnR]
  clear h hf hx hnT hnR ht
  go_enter Tryz.func10, Tryz.ntmps10
  go_wp2_with fail
  refine (hS _ (bl_alloc (bl_a _) _)).mono ?_
  rintro e w1 ⟨q, rfl, hq, hb1⟩
  have HQ : Hid (q = true ↔ Good tb (rbs.map RB.l)) := hq
  have HB1a : Hid (Below (w.heap.size + 1 + 1) ((w.alloc (.cells #[.slice aT nT capT, .slice aR nR capR] 30)).alloc (.cells #[.int .i64 x.t.k, .slice x.t.a x.t.len x.t.cap, .int .i64 x.t.n, .int .i64 x.t.s] 37)) w1) := (show Below _ _ _ by simpa using hb1)
  have HB1 : Hid (Below w.heap.size w w1) := bl_trans (bl_alloc (bl_a _) _) hb1
  have HBX0 : Hid (∀ W, Below w1.heap.size w1 W → W.cell? ⟨w.heap.size, 0, none⟩ = some (.slice aT nT capT) ∧ W.cell? ⟨w.heap.size + 1, 0, none⟩ = some (.int .i64 x.t.k) ∧ W.cell? ⟨w.heap.size + 1, 1, none⟩ = some (.slice x.t.a x.t.len x.t.cap) ∧ W.cell? ⟨w.heap.size + 1, 2, none⟩ = some (.int .i64 x.t.n) ∧ W.cell? ⟨w.heap.size + 1, 3, none⟩ = some (.int .i64 x.t.s)) := by
    intro W hW
    have hs1 : w.heap.size + 1 + 1 ≤ w1.heap.size := by have := HB1a.out.size; simpa using this
    have hall := HB1a.out.trans (hW.mono hs1)
    exact ⟨(hall.cell (p := ⟨w.heap.size, 0, none⟩) (by show w.heap.size < _; omega)).trans (by simp [go_sem]), (hall.cell (p := ⟨w.heap.size + 1, 0, none⟩) (Nat.lt_succ_self _)).trans (by simp [go_sem]), (hall.cell (p := ⟨w.heap.size + 1, 1, none⟩) (Nat.lt_succ_self _)).trans (by simp [go_sem]), (hall.cell (p := ⟨w.heap.size + 1, 2, none⟩) (Nat.lt_succ_self _)).trans (by simp [go_sem]), (hall.cell (p := ⟨w.heap.size + 1, 3, none⟩) (Nat.lt_succ_self _)).trans (by simp [go_sem])⟩
  clear hS hb1 hq
  cases q with
  | false =>
    go_wp2
    go_ret
    refine ⟨0, rfl, fun h => absurd (HQ.out.2 h.1) (by simp), fun _ => rfl, HB1.out⟩
  | true =>
    obtain ⟨c0, c1, c2, c3, c4⟩ := HBX0.out w1 (Below.refl _ _)
    have hT := implTermOk_any x.t.k x.t.n x.t.s x.t.a x.t.len x.t.cap x.b w1 (HXB.out.below HB1.out) HXF.out.1 HXF.out.2.1 HXF.out.2.2.1 HXF.out.2.2.2
    have e : termOk x.t.k x.b x.t.n x.t.s = x.td.ok := rfl
    rw [e] at hT
    obtain ⟨p, hp⟩ : ∃ p, p = x.td.ok := ⟨_, rfl⟩
    have HP : Hid (p = x.td.ok) := hp
    rw [← hp] at hT
    clear hp e
    go_wp2_with fail
    refine hT.mono ?_
    rintro e w3 ⟨rfl, hb2⟩
    have HB2 : Hid (Below w1.heap.size w1 w3) := hb2
    have HBw3 : Hid (Below w.heap.size w w3) := bl_trans HB1.out hb2
    clear hT c0 c1 c2 c3 c4 hb2
    cases p with
    | false =>
      go_wp2
      go_ret
      refine ⟨0, rfl, fun h => ?_, fun _ => rfl, HBw3.out⟩
      have := h.2
      rw [← HP.out] at this
      cases this
    | true =>
      have HG : Hid (Good tb (rbs.map RB.l)) := HQ.out.1 (by simp)
      have HXG : Hid x.good := ⟨HP.out.symm, HXB.out.byt⟩
      have HBX : Hid (∀ w', w3.grownBy w' none → w'.cell? ⟨w.heap.size, 0, none⟩ = some (.slice aT nT capT) ∧ w'.cell? ⟨w.heap.size + 1, 0, none⟩ = some (.int .i64 x.t.k) ∧ w'.cell? ⟨w.heap.size + 1, 1, none⟩ = some (.slice x.t.a x.t.len x.t.cap) ∧ w'.cell? ⟨w.heap.size + 1, 2, none⟩ = some (.int .i64 x.t.n) ∧ w'.cell? ⟨w.heap.size + 1, 3, none⟩ = some (.int .i64 x.t.s)) := by
        intro w' hg
        have hs1 : w.heap.size + 1 + 1 ≤ w1.heap.size := by have := HB1a.out.size; simpa using this
        have hs3 := HB2.out.size
        obtain ⟨d0, d1, d2, d3, d4⟩ := HBX0.out w3 HB2.out
        exact ⟨(cell_grown hg (by omega) (by simp)).trans d0, (cell_grown hg (by omega) (by simp)).trans d1, (cell_grown hg (by omega) (by simp)).trans d2, (cell_grown hg (by omega) (by simp)).trans d3, (cell_grown hg (by omega) (by simp)).trans d4⟩
      have hsa := HSA.out.below (Below.drew HBw3.out)
      have HNB : Hid (Calls Tryz.prog 17 #[.slice aT nT capT] w3.drew (NumsRes w3.drew (tb.map TB.td))) := by
        have h := numbersOf_any aT capT tb w3.drew hsa.tlen hsa.trow hsa.ttxt (HG.out.terms hsa.byt) HG.out.trm.asc (HTab.out.below (Below.drew HBw3.out))
        rw [← HNT.out] at h
        exact h
      have HSC : Hid (∀ w4, Below w3.heap.size w3.drew w4 → Calls Tryz.prog 32 #[.agg #[.int .i64 x.t.k, .slice x.t.a x.t.len x.t.cap, .int .i64 x.t.n, .int .i64 x.t.s]] w4 fun e w' => TxRes w4 x.td.shown e w') := fun w4 hb => by
        have hw4 : Below w.heap.size w w4 := (Below.drew HBw3.out).trans (hb.mono HBw3.out.size)
        exact implShow_tb x w4 HXG.out (HXB.out.below hw4) (HTab.out.below hw4)
      clear hsa
      go_wp2_with fail
      refine wp_region_held_drew (S := fun w' => w3.grownBy w' none) (by kernel_rfl) ?_ (fun hHeld => ?_)
      · exact grown_drew _ _
      refine take_at (i := 0) 13 (v := ?v1) rfl rfl (by kernel_rfl) (by kernel_rfl) (by kernel_rfl) (fun _ _ _ h => h) (Or.inl ⟨by rfl, ?y1⟩) hHeld ?r1
      case y1 => (intro w' hSw; skip; go_simp; (try with_reducible rfl))
      try simp only [Act.put, List.setIfInBounds_toArray, List.set_cons_zero, List.set_cons_succ]
      refine take_at (i := 1) 14 (v := ?v2) rfl rfl (by kernel_rfl) (by kernel_rfl) (by kernel_rfl) (fun _ _ _ h => h) (Or.inl ⟨by rfl, ?y2⟩) hHeld ?r2
      case y2 => (intro w' hSw; obtain ⟨b0, b1, b2, b3, b4⟩ := HBX.out w' hSw; go_simp; (try with_reducible rfl))
      try simp only [Act.put, List.setIfInBounds_toArray, List.set_cons_zero, List.set_cons_succ]
      refine take_at (i := 3) 16 (v := ?v3) rfl rfl (by kernel_rfl) (by kernel_rfl) (by kernel_rfl) (fun _ _ _ h => h) (Or.inl ⟨by rfl, ?y3⟩) hHeld ?r3
      case y3 => (intro w' hSw; obtain ⟨b0, b1, b2, b3, b4⟩ := HBX.out w' hSw; go_simp; (try with_reducible rfl))
      try simp only [Act.put, List.setIfInBounds_toArray, List.set_cons_zero, List.set_cons_succ]
      refine wpAnyH_ready (rs := [2]) (by kernel_rfl) (by simp) ?_
      refine AllReadyH.cons rfl (fun K hK => ?_) AllReadyH.nil
      go_simp
      refine HNB.out.mono ?_
      rintro e w4 ⟨D, rfl, HMO, HND, HB4⟩
      have HMO : Hid _ := HMO
      have HND : Hid _ := HND
      have HB4 : Hid (Below w3.heap.size w3.drew w4) := HB4
      go_wp2_with fail
      refine hK.out _ _ ?_ (fun hHeld => ?_)
      · exact (grown_drew _ _).trans (grown_of_below HB4.out)
      clear hK K
      try simp only [Act.put, List.setIfInBounds_toArray, List.set_cons_zero, List.set_cons_succ]
      have HSH := HSC.out w4 HB4.out
      refine wpAnyH_ready (rs := [4]) (by kernel_rfl) (by simp) ?_
      refine AllReadyH.cons rfl (fun K hK => ?_) AllReadyH.nil
      go_simp
      refine HSH.mono ?_
      rintro e w5 ⟨a5, cap5, rfl, HN5, HX5⟩
      have HX5 : Hid (Below w4.heap.size w4 w5) := HX5
      have HC5 : Hid (∀ w', w5.grownBy w' none → (convert 22 9 (.slice a5 x.td.shown.length cap5)).run Tryz.prog w' = .ok (.string (strOfNums x.td.shown)) w') := fun w' hw' => (nw_grown HN5 hw' (fun b hb => by cases hb)).str
      have HLT : Hid (w3.heap.size < w4.heap.size) := by
         obtain ⟨es, ck, hh, _⟩ := HMO.out
         obtain ⟨h1, _⟩ := Array.getElem?_eq_some_iff.1 hh
         exact h1
      have HLK : Hid (∀ w', w5.grownBy w' none → (Instr.lookup 53 (.map (some w3.heap.size)) (.string (strOfNums x.td.shown)) false).run Tryz.prog w' = .ok (.int .i64 (idOf (tb.map TB.td) x.td : Nat)) w') := fun w' hw' => look_at (ownsMap_block HMO.out ((hw'.block _ (Nat.lt_of_lt_of_le HLT.out HX5.out.size) (by simp)).trans (HX5.out.block _ HLT.out))) HND.out HXG.out
      clear HSH HN5
      go_wp2_with fail
      refine hK.out _ _ ?_ (fun hHeld => ?_)
      · exact (grown_drew _ _).trans ((grown_of_below HB4.out).trans (grown_of_below HX5.out))
      clear hK K
      try simp only [Act.put, List.setIfInBounds_toArray, List.set_cons_zero, List.set_cons_succ]
      refine wpAnyH_imp (S' := (fun w' => w5.grownBy w' none)) (fun w' h => (grown_drew _ _).trans (((grown_of_below HB4.out).trans (grown_of_below HX5.out)).trans h)) _ _ _ _ ?_
      have hHeld : w5.grownBy w5 none := grown_refl _ _
      refine take_at (i := 5) 18 (v := ?v4) rfl rfl (by kernel_rfl) (by kernel_rfl) (by kernel_rfl) (fun _ _ _ h => h) (Or.inl ⟨by rfl, ?y4⟩) hHeld ?r4
      case y4 => (intro w' hSw; have hcv := HC5.out w' hSw; go_simp; (try with_reducible rfl))
      try simp only [Act.put, List.setIfInBounds_toArray, List.set_cons_zero, List.set_cons_succ]
      refine take_at (i := 6) 19 (v := ?v5) rfl rfl (by kernel_rfl) (by kernel_rfl) (by kernel_rfl) (fun _ _ _ h => h) (Or.inl ⟨by rfl, ?y5⟩) hHeld ?r5
      case y5 => (intro w' hSw; have hlk := HLK.out w' hSw; go_simp; (try with_reducible rfl))
      try simp only [Act.put, List.setIfInBounds_toArray, List.set_cons_zero, List.set_cons_succ]
      refine take_at (i := 7) 4 (v := ?v6) rfl rfl (by kernel_rfl) (by kernel_rfl) (by kernel_rfl) (fun _ _ _ h => h) (Or.inl ⟨by rfl, ?y6⟩) hHeld ?r6
      case y6 => (intro w' hSw; skip; go_simp; (try with_reducible rfl))
      try simp only [Act.put, List.setIfInBounds_toArray, List.set_cons_zero, List.set_cons_succ]
      refine wpAnyH_done (by kernel_rfl) ?_ _
      go_wp2
      go_ret
      exact ⟨_, rfl, fun _ => rfl, fun h => absurd ⟨HG.out, HP.out.symm⟩ h, ((Below.drew HBw3.out).trans (HB4.out.mono HBw3.out.size)).trans (HX5.out.mono (by have := HBw3.out.size; have := HB4.out.size; simp at *; omega))⟩
end Go.Proofs.YtobnpfcgcoooeaaGreatDoor
