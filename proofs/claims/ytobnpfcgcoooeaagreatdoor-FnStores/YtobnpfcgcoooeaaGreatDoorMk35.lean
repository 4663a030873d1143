/- Texts put together: StpH -/
import Derived.Test.YtobnpfcgcoooeaaGreatDoorMk34
import Derived.Test.YtobnpfcgcoooeaaGreatDoorMk07
/- StpH -/
namespace Go.Proofs.YtobnpfcgcoooeaaGreatDoor
open Go.RowKit Go.Deep Go.Maps
set_option maxRecDepth 100000

theorem wpAnyH_imp {P : Program} {md : Region.Mode} {ops : Array Oper} {Q : Exit → Act → World → Prop} {S S' : World → Prop} (h : ∀ w, S' w → S w) : ∀ (fuel : Nat) (listed : Array Bool) (a : Act) (w : World), wpAnyH P md ops Q S' fuel listed a w → wpAnyH P md ops Q S fuel listed a w
  | 0, _, _, _, hh => hh
  | fuel + 1, _, _, _, hh => ⟨hh.1, fun i hi => wpOp_mono (fun a' w' h' => ⟨h w' h'.1, wpAnyH_imp h fuel _ a' w' h'.2⟩) (hh.2 i hi)⟩
theorem grown_refl (w : World) (row : Option Nat) : w.grownBy w row := ⟨rfl, rfl, rfl, Nat.le_refl _, fun _ _ _ => rfl⟩
theorem grown_drew (w : World) (row : Option Nat) : w.grownBy w.drew row := ⟨rfl, rfl, rfl, Nat.le_refl _, fun _ _ _ => rfl⟩
theorem grown_of_below {w w' : World} {row : Option Nat} {B : Nat} (h : Below B w w') (hB : w.heap.size ≤ B := by first | exact Nat.le_refl _ | simp) : w.grownBy w' row := ⟨h.os, h.tape, h.output, h.size, fun b hb _ => h.block b (Nat.lt_of_lt_of_le hb hB)⟩
theorem cell_grown {w w' : World} {row : Option Nat} (h : w.grownBy w' row) {b o : Nat} (hb : b < w.heap.size) (hr : some b ≠ row) : w'.cell? ⟨b, o, none⟩ = w.cell? ⟨b, o, none⟩ := World.cell?_of_block (w := w) (a := ⟨b, o, none⟩) (h.block b hb hr)
theorem nw_grown {w w' : World} {B : Nat} {a : Option Addr} {len : Nat} {bs : List Int} {row : Option Nat} (h : Nw w B a len bs) (hg : w.grownBy w' row) (hr : ∀ b, row = some b → b < B) : Bs w' a len bs := by
  rcases h with ⟨rfl, rfl, rfl⟩ | ⟨g, rfl, hB, ⟨b1, b2, b3, b4⟩, hlt, _, _⟩
  · exact ⟨rfl, by omega, by simp, .inl rfl⟩
  · refine ⟨b1, b2, b3, b4.imp id fun ⟨b, off, ha, hb, hc⟩ => ⟨b, off, ha, Nat.lt_of_lt_of_le hb hg.size, fun i hi => ?_⟩⟩
    cases ha
    rw [cell_grown hg hb (fun e => by have := hr g e.symm; omega)]
    exact hc i hi
/-- A look-up of a term's number. -/
theorem look_at {w : World} {mb nm : Nat} {D : DataW Unit} {l : List TD} (hO : w.ownsMap Tryz.prog 9 (plainElem Tryz.prog 3) mb nm D) (hD : NumD D l) {t : TD} (ht : t.good) :
    (Instr.lookup 53 (.map (some mb)) (.string (strOfNums t.shown)) false).run Tryz.prog w = .ok (.int .i64 (idOf l t : Nat)) w := by
  obtain ⟨c, hrun, hat, _⟩ := hO.lookup_int keyed_str Tryz.underlying53 Tryz.underlying3 (zero_int w) (TD.keyOf ht)
  rw [hD.num t ht] at hat
  injection hat with hat
  injection hat with _ hat
  rw [hrun, hat]
theorem one_row (w : World) (c0 c1 c2 : Int) : ∀ j u, ([.int .i64 c0, .int .i64 c1, .int .i64 c2] : List Value)[j]? = some u → (w.alloc (.cells #[.int .i64 c0, .int .i64 c1, .int .i64 c2] 45)).cell? ((⟨w.heap.size, 0, none⟩ : Addr).add j) = some u := by
  intro j u hj
  have ea : (⟨w.heap.size, 0, none⟩ : Addr).add j = ⟨w.heap.size, j, none⟩ := by
    by_cases h0 : j = 0 <;> simp [Addr.add, h0]
  rw [ea]
  simp only [go_sem]
  simp
  exact hj
theorem one_row1 (c0 c1 c2 : Int) : ∀ u ∈ ([.int .i64 c0, .int .i64 c1, .int .i64 c2] : List Value), u.oneCell' = true := by
  intro u hu
  simp only [List.mem_cons, List.not_mem_nil, or_false] at hu
  rcases hu with rfl | rfl | rfl <;> rfl
/-- What rowsOf answers. -/
def RowsRes (w : World) (l : List TD) (n : Nat) (T U V : Nat → Tm) (bt bu bv : Nat → List Int) (e : Ending) (w' : World) : Prop :=
  ∃ v, e = .returned v ∧ OwnRR w' w.heap.size v (gRows l T U V bt bu bv n) ∧ Below w.heap.size w w'

set_option maxHeartbeats 16000000 in
theorem rowsOf_any (a : Option Addr) (n cap : Nat) (T U V : Nat → Tm) (bt bu bv : Nat → List Int) (mb nm : Nat) (D : DataW Unit) (l : List TD) (w : World) (hn : n ≤ 60) (hR : Rows w a n T U V) (hg : ∀ y, InG n T U V bt bu bv y → y.good ∧ Bs w y.t.a y.t.len y.b) (ht : Tab w)
    (hO : w.ownsMap Tryz.prog 9 (plainElem Tryz.prog 3) mb nm D) (hD : NumD D l) :
    Calls Tryz.prog 16 #[.agg #[.slice a n cap], .map (some mb)] w (RowsRes w l n T U V bt bu bv) := by
  by_cases hn0 : n = 0
  · subst hn0
    clear hR hg hO hD ht
    go_enter Tryz.func16, Tryz.ntmps16
    go_wp2
    refine wp_loop_rounds 1 ?_
    rw [rounds_succ]
    go_wp2
    go_ret
    exact ⟨.slice none 0 0, rfl, OwnRR.nil _ _, bl_a _⟩
  · obtain ⟨b, off, rfl, hlt, hc⟩ := hR.resolve_left hn0
    have HC : Hid (∀ i, i < n → Row12 w b (off + i * 12) (T i) (U i) (V i)) := hc
    have HGD : Hid (∀ y, InG n T U V bt bu bv y → y.good ∧ Bs w y.t.a y.t.len y.b) := hg
    have HTab : Hid (Tab w) := ht
    have hmb := hO.lt
    have HMB : Hid (mb < w.heap.size) := hmb
    have HLOOK : Hid (∀ w', w'.heap[mb]? = w.heap[mb]? → ∀ t : TD, t.good → (Instr.lookup 53 (.map (some mb)) (.string (strOfNums t.shown)) false).run Tryz.prog w' = .ok (.int .i64 (idOf l t : Nat)) w') := fun w' hw' t htg => look_at (ownsMap_block hO hw') hD htg
    have mixed : Tryz.prog.follows .mixedOrders = true := by kernel_rfl
    obtain ⟨i0, hi0, hzz⟩ := Option.map_eq_some_iff.1 Tryz.info45
    simp only [Prod.mk.injEq] at hzz
    obtain ⟨hi2, hi1, hi3⟩ := hzz
    clear hR hc hg ht hO hD hmb
    go_enter Tryz.func16, Tryz.ntmps16
    go_wp2
    go_loopw [5, 11] (fun v5 v11 wr => ∃ (k : Nat) (v : Value), k ≤ n ∧ v = v5 ∧ v11 = .int .i64 k ∧ Hid (OwnRR wr (w.heap.size + 1) v (gRows l T U V bt bu bv k)) ∧ Hid (Below (w.heap.size + 1) (w.alloc (.cells #[.slice (some ⟨b, off, none⟩) n cap] 25)) wr))
      (fun _ v11 _ => n - (intOf v11).toNat)
    case atStart => exact ⟨0, _, Nat.zero_le _, rfl, rfl, OwnRR.nil _ _, Below.refl _ _⟩
    case round =>
      obtain ⟨k, v, hk, rfl, rfl, HO, HB⟩ := hrel
      have HWB : Hid (Below w.heap.size w wr) := (bl_a _).trans (HB.out.mono (Nat.le_succ _))
      have hsz : w.heap.size + 1 ≤ wr.heap.size := by have := HB.out.size; simpa using this
      by_cases hlk : k < n
      · have hlkz : (k : Int) < (n : Int) := by omega
        obtain ⟨⟨x0, x1, x2, x3⟩, ⟨x4, x5, x6, x7⟩, ⟨x8, x9, xa, xb⟩⟩ := (HC.out k hlk).of_block (HWB.out.block b hlt)
        have HOB : Hid (∀ g, v.ownBlock = some g → g < wr.heap.size) := fun g hg' => (HO.out.2 g hg').2
        have HOL : Hid (∀ g, v.ownBlock = some g → w.heap.size + 1 ≤ g) := fun g hg' => (HO.out.2 g hg').1
        have hg0 := HGD.out (TB.mk (T k) (bt k)) ⟨k, hlk, Or.inl rfl⟩
        obtain ⟨s0, hs0⟩ : ∃ s, s = strOfNums (TB.mk (T k) (bt k)).td.shown := ⟨_, rfl⟩
        have HS0 : Hid (s0 = strOfNums (TB.mk (T k) (bt k)).td.shown) := hs0
        obtain ⟨c0, hc0⟩ : ∃ c : Int, c = (idOf l (TB.mk (T k) (bt k)).td : Nat) := ⟨_, rfl⟩
        have HV0 : Hid (c0 = (idOf l (TB.mk (T k) (bt k)).td : Nat)) := hc0
        obtain ⟨n0, hm0⟩ : ∃ m, m = (TB.mk (T k) (bt k)).td.shown.length := ⟨_, rfl⟩
        have HSH0 : Hid (∀ w', Below (wr.heap.size + 1) (wr.alloc (.cells #[.int .i64 (T k).k, .slice (T k).a (T k).len (T k).cap, .int .i64 (T k).n, .int .i64 (T k).s, .int .i64 (U k).k, .slice (U k).a (U k).len (U k).cap, .int .i64 (U k).n, .int .i64 (U k).s, .int .i64 (V k).k, .slice (V k).a (V k).len (V k).cap, .int .i64 (V k).n, .int .i64 (V k).s] 41)) w' → Calls Tryz.prog 32 #[.agg #[.int .i64 (T k).k, .slice (T k).a (T k).len (T k).cap, .int .i64 (T k).n, .int .i64 (T k).s]] w' fun e w'' => ∃ a cap, e = .returned (.slice a n0 cap) ∧ Nw w'' w'.heap.size a n0 (TB.mk (T k) (bt k)).td.shown ∧ Below w'.heap.size w' w'') := fun w' hw' => by
          have hbw : Below w.heap.size w w' := HWB.out.trans (((bl_a _).trans (hw'.mono (Nat.le_succ _))).mono (by omega))
          rw [hm0]
          exact implShow_tb (TB.mk (T k) (bt k)) w' hg0.1 (hg0.2.below hbw) (HTab.out.below hbw)
        have hg1 := HGD.out (TB.mk (U k) (bu k)) ⟨k, hlk, Or.inr (Or.inl rfl)⟩
        obtain ⟨s1, hs1⟩ : ∃ s, s = strOfNums (TB.mk (U k) (bu k)).td.shown := ⟨_, rfl⟩
        have HS1 : Hid (s1 = strOfNums (TB.mk (U k) (bu k)).td.shown) := hs1
        obtain ⟨c1, hc1⟩ : ∃ c : Int, c = (idOf l (TB.mk (U k) (bu k)).td : Nat) := ⟨_, rfl⟩
        have HV1 : Hid (c1 = (idOf l (TB.mk (U k) (bu k)).td : Nat)) := hc1
        obtain ⟨n1, hm1⟩ : ∃ m, m = (TB.mk (U k) (bu k)).td.shown.length := ⟨_, rfl⟩
        have HSH1 : Hid (∀ w', Below (wr.heap.size + 1) (wr.alloc (.cells #[.int .i64 (T k).k, .slice (T k).a (T k).len (T k).cap, .int .i64 (T k).n, .int .i64 (T k).s, .int .i64 (U k).k, .slice (U k).a (U k).len (U k).cap, .int .i64 (U k).n, .int .i64 (U k).s, .int .i64 (V k).k, .slice (V k).a (V k).len (V k).cap, .int .i64 (V k).n, .int .i64 (V k).s] 41)) w' → Calls Tryz.prog 32 #[.agg #[.int .i64 (U k).k, .slice (U k).a (U k).len (U k).cap, .int .i64 (U k).n, .int .i64 (U k).s]] w' fun e w'' => ∃ a cap, e = .returned (.slice a n1 cap) ∧ Nw w'' w'.heap.size a n1 (TB.mk (U k) (bu k)).td.shown ∧ Below w'.heap.size w' w'') := fun w' hw' => by
          have hbw : Below w.heap.size w w' := HWB.out.trans (((bl_a _).trans (hw'.mono (Nat.le_succ _))).mono (by omega))
          rw [hm1]
          exact implShow_tb (TB.mk (U k) (bu k)) w' hg1.1 (hg1.2.below hbw) (HTab.out.below hbw)
        have hg2 := HGD.out (TB.mk (V k) (bv k)) ⟨k, hlk, Or.inr (Or.inr rfl)⟩
        obtain ⟨s2, hs2⟩ : ∃ s, s = strOfNums (TB.mk (V k) (bv k)).td.shown := ⟨_, rfl⟩
        have HS2 : Hid (s2 = strOfNums (TB.mk (V k) (bv k)).td.shown) := hs2
        obtain ⟨c2, hc2⟩ : ∃ c : Int, c = (idOf l (TB.mk (V k) (bv k)).td : Nat) := ⟨_, rfl⟩
        have HV2 : Hid (c2 = (idOf l (TB.mk (V k) (bv k)).td : Nat)) := hc2
        obtain ⟨n2, hm2⟩ : ∃ m, m = (TB.mk (V k) (bv k)).td.shown.length := ⟨_, rfl⟩
        have HSH2 : Hid (∀ w', Below (wr.heap.size + 1) (wr.alloc (.cells #[.int .i64 (T k).k, .slice (T k).a (T k).len (T k).cap, .int .i64 (T k).n, .int .i64 (T k).s, .int .i64 (U k).k, .slice (U k).a (U k).len (U k).cap, .int .i64 (U k).n, .int .i64 (U k).s, .int .i64 (V k).k, .slice (V k).a (V k).len (V k).cap, .int .i64 (V k).n, .int .i64 (V k).s] 41)) w' → Calls Tryz.prog 32 #[.agg #[.int .i64 (V k).k, .slice (V k).a (V k).len (V k).cap, .int .i64 (V k).n, .int .i64 (V k).s]] w' fun e w'' => ∃ a cap, e = .returned (.slice a n2 cap) ∧ Nw w'' w'.heap.size a n2 (TB.mk (V k) (bv k)).td.shown ∧ Below w'.heap.size w' w'') := fun w' hw' => by
          have hbw : Below w.heap.size w w' := HWB.out.trans (((bl_a _).trans (hw'.mono (Nat.le_succ _))).mono (by omega))
          rw [hm2]
          exact implShow_tb (TB.mk (V k) (bv k)) w' hg2.1 (hg2.2.below hbw) (HTab.out.below hbw)
        have HLK : Hid (∀ w', (wr.alloc (.cells #[.int .i64 (T k).k, .slice (T k).a (T k).len (T k).cap, .int .i64 (T k).n, .int .i64 (T k).s, .int .i64 (U k).k, .slice (U k).a (U k).len (U k).cap, .int .i64 (U k).n, .int .i64 (U k).s, .int .i64 (V k).k, .slice (V k).a (V k).len (V k).cap, .int .i64 (V k).n, .int .i64 (V k).s] 41)).grownBy w' v.ownBlock → (Instr.lookup 53 (.map (some mb)) (.string s0) false).run Tryz.prog w' = .ok (.int .i64 c0) w' ∧ (Instr.lookup 53 (.map (some mb)) (.string s1) false).run Tryz.prog w' = .ok (.int .i64 c1) w' ∧ (Instr.lookup 53 (.map (some mb)) (.string s2) false).run Tryz.prog w' = .ok (.int .i64 c2) w') := fun w' hw' => by
          have hmb := HMB.out
          have he : w'.heap[mb]? = w.heap[mb]? := (hw'.block mb (by simp; omega) (fun e => by have := HOL.out mb e.symm; omega)).trans ((Below.heap_alloc _ _ _ (by omega)).trans (HWB.out.block mb hmb))
          rw [hs0, hs1, hs2, hc0, hc1, hc2]
          exact ⟨HLOOK.out w' he _ hg0.1, HLOOK.out w' he _ hg1.1, HLOOK.out w' he _ hg2.1⟩
        have HKC : Hid (∀ w', (wr.alloc (.cells #[.int .i64 (T k).k, .slice (T k).a (T k).len (T k).cap, .int .i64 (T k).n, .int .i64 (T k).s, .int .i64 (U k).k, .slice (U k).a (U k).len (U k).cap, .int .i64 (U k).n, .int .i64 (U k).s, .int .i64 (V k).k, .slice (V k).a (V k).len (V k).cap, .int .i64 (V k).n, .int .i64 (V k).s] 41)).grownBy w' v.ownBlock → w'.cell? ⟨wr.heap.size, 0, none⟩ = some (.int .i64 (T k).k) ∧ w'.cell? ⟨wr.heap.size, 1, none⟩ = some (.slice (T k).a (T k).len (T k).cap) ∧ w'.cell? ⟨wr.heap.size, 2, none⟩ = some (.int .i64 (T k).n) ∧ w'.cell? ⟨wr.heap.size, 3, none⟩ = some (.int .i64 (T k).s) ∧ w'.cell? ⟨wr.heap.size, 4, none⟩ = some (.int .i64 (U k).k) ∧ w'.cell? ⟨wr.heap.size, 5, none⟩ = some (.slice (U k).a (U k).len (U k).cap) ∧ w'.cell? ⟨wr.heap.size, 6, none⟩ = some (.int .i64 (U k).n) ∧ w'.cell? ⟨wr.heap.size, 7, none⟩ = some (.int .i64 (U k).s) ∧ w'.cell? ⟨wr.heap.size, 8, none⟩ = some (.int .i64 (V k).k) ∧ w'.cell? ⟨wr.heap.size, 9, none⟩ = some (.slice (V k).a (V k).len (V k).cap) ∧ w'.cell? ⟨wr.heap.size, 10, none⟩ = some (.int .i64 (V k).n) ∧ w'.cell? ⟨wr.heap.size, 11, none⟩ = some (.int .i64 (V k).s)) := fun w' hw' => by
          have e : ∀ o, w'.cell? ⟨wr.heap.size, o, none⟩ = (wr.alloc (.cells #[.int .i64 (T k).k, .slice (T k).a (T k).len (T k).cap, .int .i64 (T k).n, .int .i64 (T k).s, .int .i64 (U k).k, .slice (U k).a (U k).len (U k).cap, .int .i64 (U k).n, .int .i64 (U k).s, .int .i64 (V k).k, .slice (V k).a (V k).len (V k).cap, .int .i64 (V k).n, .int .i64 (V k).s] 41)).cell? ⟨wr.heap.size, o, none⟩ := fun o => cell_grown hw' (by simp) (fun e => by have := HOB.out _ e.symm; omega)
          simp only [e]
          simp [go_sem]
        have FIN : Hid (∀ w3, Below (wr.heap.size + 1) (wr.alloc (.cells #[.int .i64 (T k).k, .slice (T k).a (T k).len (T k).cap, .int .i64 (T k).n, .int .i64 (T k).s, .int .i64 (U k).k, .slice (U k).a (U k).len (U k).cap, .int .i64 (U k).n, .int .i64 (U k).s, .int .i64 (V k).k, .slice (V k).a (V k).len (V k).cap, .int .i64 (V k).n, .int .i64 (V k).s] 41)) w3 → ∀ g3 cap3 w9, w9.ownsRow (w.heap.size + 1) 45 3 (.slice (some ⟨g3, 0, none⟩) ((gRows l T U V bt bu bv k).length + 1) cap3) ((gRows l T U V bt bu bv k).length + 1) (flat3 (gRows l T U V bt bu bv k) ++ [.int .i64 c0, .int .i64 c1, .int .i64 c2]) → (w3.alloc (.cells #[.int .i64 c0, .int .i64 c1, .int .i64 c2] 45)).grownBy w9 v.ownBlock → g3 < w9.heap.size → ∃ v', (.slice (some ⟨g3, 0, none⟩) ((gRows l T U V bt bu bv k).length + 1) cap3) = v' ∧ Hid (OwnRR w9 (w.heap.size + 1) v' (gRows l T U V bt bu bv (k + 1))) ∧ Hid (Below (w.heap.size + 1) (w.alloc (.cells #[.slice (some ⟨b, off, none⟩) n cap] 25)) w9)) := fun w3 hw3 g3 cap3 w9 hown hgr hlt9 => by
          have hs3 : wr.heap.size + 1 ≤ w3.heap.size := by have := hw3.size; simpa using this
          refine ⟨_, rfl, (show OwnRR _ _ _ _ from ⟨?_, fun g' hg' => ?_⟩), (show Below _ _ _ from ?_)⟩
          · have e1 : flat3 (gRows l T U V bt bu bv (k + 1)) = flat3 (gRows l T U V bt bu bv k) ++ [.int .i64 c0, .int .i64 c1, .int .i64 c2] := by
              rw [gRows_succ, flat3_append, hc0, hc1, hc2]
              rfl
            have e2 : (gRows l T U V bt bu bv (k + 1)).length = (gRows l T U V bt bu bv k).length + 1 := by rw [gRows_len, gRows_len]
            rw [e1, e2]
            exact hown
          · have : g3 = g' := by simpa [Value.ownBlock] using hg'
            subst this
            rcases hown.2 with ⟨hv, _⟩ | ⟨g0, c0', cur, hv, hb, _⟩
            · cases hv
            · cases hv; exact ⟨hb, hlt9⟩
          · have h1 : Below (w.heap.size + 1) (w.alloc (.cells #[.slice (some ⟨b, off, none⟩) n cap] 25)) (w3.alloc (.cells #[.int .i64 c0, .int .i64 c1, .int .i64 c2] 45)) := HB.out.trans (((bl_a _).mono hsz).trans ((hw3.mono (by omega)).trans ((bl_a _).mono (by omega))))
            exact h1.grown hgr (by simp; omega) (fun g hg' => HOL.out g hg')
        clear hs0 hs1 hs2 hc0 hc1 hc2 hm0 hm1 hm2 hg0 hg1 hg2
        go_wp2_with fail
        refine wp_region_held_drew (S := (fun w' => (wr.alloc (.cells #[.int .i64 (T k).k, .slice (T k).a (T k).len (T k).cap, .int .i64 (T k).n, .int .i64 (T k).s, .int .i64 (U k).k, .slice (U k).a (U k).len (U k).cap, .int .i64 (U k).n, .int .i64 (U k).s, .int .i64 (V k).k, .slice (V k).a (V k).len (V k).cap, .int .i64 (V k).n, .int .i64 (V k).s] 41)).grownBy w' v.ownBlock)) (by kernel_rfl) ?_ (fun hHeld => ?_)
        · exact grown_drew _ _
        refine take_at (i := 0) 15 (v := ?v1) rfl rfl (by kernel_rfl) (by kernel_rfl) (by kernel_rfl) (fun _ _ _ h => h) (Or.inl ⟨by rfl, ?y1⟩) hHeld ?r1
        case y1 => (intro w' hSw; skip; go_simp; (try with_reducible rfl))
        simp only [Act.put, List.setIfInBounds_toArray, List.set_cons_zero, List.set_cons_succ]
        refine take_at (i := 1) 16 (v := ?v2) rfl rfl (by kernel_rfl) (by kernel_rfl) (by kernel_rfl) (fun _ _ _ h => h) (Or.inl ⟨by rfl, ?y2⟩) hHeld ?r2
        case y2 => (intro w' hSw; skip; go_simp; (try with_reducible rfl))
        simp only [Act.put, List.setIfInBounds_toArray, List.set_cons_zero, List.set_cons_succ]
        refine take_at (i := 2) 17 (v := ?v3) rfl rfl (by kernel_rfl) (by kernel_rfl) (by kernel_rfl) (fun _ _ _ h => h) (Or.inl ⟨by rfl, ?y3⟩) hHeld ?r3
        case y3 => (intro w' hSw; skip; go_simp; (try with_reducible rfl))
        simp only [Act.put, List.setIfInBounds_toArray, List.set_cons_zero, List.set_cons_succ]
        refine take_at (i := 3) 18 (v := ?v4) rfl rfl (by kernel_rfl) (by kernel_rfl) (by kernel_rfl) (fun _ _ _ h => h) (Or.inl ⟨by rfl, ?y4⟩) hHeld ?r4
        case y4 => (intro w' hSw; obtain ⟨x0, x1, x2, x3, x4, x5, x6, x7, x8, x9, xa, xb⟩ := HKC.out w' hSw; go_simp; (try with_reducible rfl))
        simp only [Act.put, List.setIfInBounds_toArray, List.set_cons_zero, List.set_cons_succ]
        refine take_at (i := 7) 22 (v := ?v5) rfl rfl (by kernel_rfl) (by kernel_rfl) (by kernel_rfl) (fun _ _ _ h => h) (Or.inl ⟨by rfl, ?y5⟩) hHeld ?r5
        case y5 => (intro w' hSw; skip; go_simp; (try with_reducible rfl))
        simp only [Act.put, List.setIfInBounds_toArray, List.set_cons_zero, List.set_cons_succ]
        refine take_at (i := 8) 23 (v := ?v6) rfl rfl (by kernel_rfl) (by kernel_rfl) (by kernel_rfl) (fun _ _ _ h => h) (Or.inl ⟨by rfl, ?y6⟩) hHeld ?r6
        case y6 => (intro w' hSw; skip; go_simp; (try with_reducible rfl))
        simp only [Act.put, List.setIfInBounds_toArray, List.set_cons_zero, List.set_cons_succ]
        refine take_at (i := 9) 24 (v := ?v7) rfl rfl (by kernel_rfl) (by kernel_rfl) (by kernel_rfl) (fun _ _ _ h => h) (Or.inl ⟨by rfl, ?y7⟩) hHeld ?r7
        case y7 => (intro w' hSw; obtain ⟨x0, x1, x2, x3, x4, x5, x6, x7, x8, x9, xa, xb⟩ := HKC.out w' hSw; go_simp; (try with_reducible rfl))
        simp only [Act.put, List.setIfInBounds_toArray, List.set_cons_zero, List.set_cons_succ]
        refine take_at (i := 13) 28 (v := ?v8) rfl rfl (by kernel_rfl) (by kernel_rfl) (by kernel_rfl) (fun _ _ _ h => h) (Or.inl ⟨by rfl, ?y8⟩) hHeld ?r8
        case y8 => (intro w' hSw; skip; go_simp; (try with_reducible rfl))
        simp only [Act.put, List.setIfInBounds_toArray, List.set_cons_zero, List.set_cons_succ]
        refine take_at (i := 14) 29 (v := ?v9) rfl rfl (by kernel_rfl) (by kernel_rfl) (by kernel_rfl) (fun _ _ _ h => h) (Or.inl ⟨by rfl, ?y9⟩) hHeld ?r9
        case y9 => (intro w' hSw; skip; go_simp; (try with_reducible rfl))
        simp only [Act.put, List.setIfInBounds_toArray, List.set_cons_zero, List.set_cons_succ]
        refine take_at (i := 15) 30 (v := ?v10) rfl rfl (by kernel_rfl) (by kernel_rfl) (by kernel_rfl) (fun _ _ _ h => h) (Or.inl ⟨by rfl, ?y10⟩) hHeld ?r10
        case y10 => (intro w' hSw; obtain ⟨x0, x1, x2, x3, x4, x5, x6, x7, x8, x9, xa, xb⟩ := HKC.out w' hSw; go_simp; (try with_reducible rfl))
        simp only [Act.put, List.setIfInBounds_toArray, List.set_cons_zero, List.set_cons_succ]
        have HL0 : Hid (Below (wr.heap.size + 1) (wr.alloc (.cells #[.int .i64 (T k).k, .slice (T k).a (T k).len (T k).cap, .int .i64 (T k).n, .int .i64 (T k).s, .int .i64 (U k).k, .slice (U k).a (U k).len (U k).cap, .int .i64 (U k).n, .int .i64 (U k).s, .int .i64 (V k).k, .slice (V k).a (V k).len (V k).cap, .int .i64 (V k).n, .int .i64 (V k).s] 41)) (wr.alloc (.cells #[.int .i64 (T k).k, .slice (T k).a (T k).len (T k).cap, .int .i64 (T k).n, .int .i64 (T k).s, .int .i64 (U k).k, .slice (U k).a (U k).len (U k).cap, .int .i64 (U k).n, .int .i64 (U k).s, .int .i64 (V k).k, .slice (V k).a (V k).len (V k).cap, .int .i64 (V k).n, .int .i64 (V k).s] 41)).drew) := Below.drew (Below.refl _ _)
        refine wpAnyH_ready (rs := [4]) (by kernel_rfl) (by simp) ?_
        refine AllReadyH.cons rfl (fun K hK => ?_) (AllReadyH.nil)
        · go_simp
          refine (HSH0.out _ HL0.out).mono ?_
          rintro e w1 ⟨a0, cap0, rfl, HN0, HX0⟩
          have HX0 : Hid (Below (wr.alloc (.cells #[.int .i64 (T k).k, .slice (T k).a (T k).len (T k).cap, .int .i64 (T k).n, .int .i64 (T k).s, .int .i64 (U k).k, .slice (U k).a (U k).len (U k).cap, .int .i64 (U k).n, .int .i64 (U k).s, .int .i64 (V k).k, .slice (V k).a (V k).len (V k).cap, .int .i64 (V k).n, .int .i64 (V k).s] 41)).drew.heap.size (wr.alloc (.cells #[.int .i64 (T k).k, .slice (T k).a (T k).len (T k).cap, .int .i64 (T k).n, .int .i64 (T k).s, .int .i64 (U k).k, .slice (U k).a (U k).len (U k).cap, .int .i64 (U k).n, .int .i64 (U k).s, .int .i64 (V k).k, .slice (V k).a (V k).len (V k).cap, .int .i64 (V k).n, .int .i64 (V k).s] 41)).drew w1) := HX0
          have HL1 : Hid (Below (wr.heap.size + 1) (wr.alloc (.cells #[.int .i64 (T k).k, .slice (T k).a (T k).len (T k).cap, .int .i64 (T k).n, .int .i64 (T k).s, .int .i64 (U k).k, .slice (U k).a (U k).len (U k).cap, .int .i64 (U k).n, .int .i64 (U k).s, .int .i64 (V k).k, .slice (V k).a (V k).len (V k).cap, .int .i64 (V k).n, .int .i64 (V k).s] 41)) w1) := HL0.out.trans (HX0.out.mono (by have := HL0.out.size; (try simp at *); (try omega)))
          have HC0 : Hid (∀ w', w1.grownBy w' v.ownBlock → (convert 22 9 (.slice a0 n0 cap0)).run Tryz.prog w' = .ok (.string s0) w') := fun w' hw' => by rw [HS0.out]; exact (nw_grown HN0 hw' (fun b hb => by have := HOB.out b hb; have := HL0.out.size; (try simp at *); (try omega))).str
          have HG1 : Hid ((wr.alloc (.cells #[.int .i64 (T k).k, .slice (T k).a (T k).len (T k).cap, .int .i64 (T k).n, .int .i64 (T k).s, .int .i64 (U k).k, .slice (U k).a (U k).len (U k).cap, .int .i64 (U k).n, .int .i64 (U k).s, .int .i64 (V k).k, .slice (V k).a (V k).len (V k).cap, .int .i64 (V k).n, .int .i64 (V k).s] 41)).grownBy w1 v.ownBlock) := grown_of_below HL1.out
          go_wp2_with fail
          refine hK.out _ _ ?_ (fun hHeld => ?_)
          · exact HG1.out
          clear hK K
          try simp only [Act.put, List.setIfInBounds_toArray, List.set_cons_zero, List.set_cons_succ]
          refine wpAnyH_imp (S' := (fun w' => w1.grownBy w' v.ownBlock)) (fun w' h => HG1.out.trans h) _ _ _ _ ?_
          have hHeld : w1.grownBy w1 v.ownBlock := grown_refl _ _
          refine take_at (i := 5) 20 (v := ?v11) rfl rfl (by kernel_rfl) (by kernel_rfl) (by kernel_rfl) (fun _ _ _ h => h) (Or.inl ⟨by rfl, ?y11⟩) hHeld ?r11
          case y11 => (intro w' hSw; have hcv := HC0.out w' hSw; go_simp; (try with_reducible rfl))
          simp only [Act.put, List.setIfInBounds_toArray, List.set_cons_zero, List.set_cons_succ]
          refine take_at (i := 6) 21 (v := ?v12) rfl rfl (by kernel_rfl) (by kernel_rfl) (by kernel_rfl) (fun _ _ _ h => h) (Or.inl ⟨by rfl, ?y12⟩) hHeld ?r12
          case y12 => (intro w' hSw; obtain ⟨k0, k1, k2⟩ := HLK.out w' (HG1.out.trans hSw); go_simp; (try with_reducible rfl))
          simp only [Act.put, List.setIfInBounds_toArray, List.set_cons_zero, List.set_cons_succ]
          refine wpAnyH_ready (rs := [10]) (by kernel_rfl) (by simp) ?_
          refine AllReadyH.cons rfl (fun K hK => ?_) (AllReadyH.nil)
          · go_simp
            refine (HSH1.out _ HL1.out).mono ?_
            rintro e w2 ⟨a1, cap1, rfl, HN1, HX1⟩
            have HX1 : Hid (Below w1.heap.size w1 w2) := HX1
            have HL2 : Hid (Below (wr.heap.size + 1) (wr.alloc (.cells #[.int .i64 (T k).k, .slice (T k).a (T k).len (T k).cap, .int .i64 (T k).n, .int .i64 (T k).s, .int .i64 (U k).k, .slice (U k).a (U k).len (U k).cap, .int .i64 (U k).n, .int .i64 (U k).s, .int .i64 (V k).k, .slice (V k).a (V k).len (V k).cap, .int .i64 (V k).n, .int .i64 (V k).s] 41)) w2) := HL1.out.trans (HX1.out.mono (by have := HL1.out.size; (try simp at *); (try omega)))
            have HC1 : Hid (∀ w', w2.grownBy w' v.ownBlock → (convert 22 9 (.slice a1 n1 cap1)).run Tryz.prog w' = .ok (.string s1) w') := fun w' hw' => by rw [HS1.out]; exact (nw_grown HN1 hw' (fun b hb => by have := HOB.out b hb; have := HL1.out.size; (try simp at *); (try omega))).str
            have HG2 : Hid ((wr.alloc (.cells #[.int .i64 (T k).k, .slice (T k).a (T k).len (T k).cap, .int .i64 (T k).n, .int .i64 (T k).s, .int .i64 (U k).k, .slice (U k).a (U k).len (U k).cap, .int .i64 (U k).n, .int .i64 (U k).s, .int .i64 (V k).k, .slice (V k).a (V k).len (V k).cap, .int .i64 (V k).n, .int .i64 (V k).s] 41)).grownBy w2 v.ownBlock) := grown_of_below HL2.out
            go_wp2_with fail
            refine hK.out _ _ ?_ (fun hHeld => ?_)
            · exact grown_of_below HX1.out
            clear hK K
            try simp only [Act.put, List.setIfInBounds_toArray, List.set_cons_zero, List.set_cons_succ]
            refine wpAnyH_imp (S' := (fun w' => w2.grownBy w' v.ownBlock)) (fun w' h => (grown_of_below HX1.out).trans h) _ _ _ _ ?_
            have hHeld : w2.grownBy w2 v.ownBlock := grown_refl _ _
            refine take_at (i := 11) 26 (v := ?v13) rfl rfl (by kernel_rfl) (by kernel_rfl) (by kernel_rfl) (fun _ _ _ h => h) (Or.inl ⟨by rfl, ?y13⟩) hHeld ?r13
            case y13 => (intro w' hSw; have hcv := HC1.out w' hSw; go_simp; (try with_reducible rfl))
            simp only [Act.put, List.setIfInBounds_toArray, List.set_cons_zero, List.set_cons_succ]
            refine take_at (i := 12) 27 (v := ?v14) rfl rfl (by kernel_rfl) (by kernel_rfl) (by kernel_rfl) (fun _ _ _ h => h) (Or.inl ⟨by rfl, ?y14⟩) hHeld ?r14
            case y14 => (intro w' hSw; obtain ⟨k0, k1, k2⟩ := HLK.out w' (HG2.out.trans hSw); go_simp; (try with_reducible rfl))
            simp only [Act.put, List.setIfInBounds_toArray, List.set_cons_zero, List.set_cons_succ]
            refine wpAnyH_ready (rs := [16]) (by kernel_rfl) (by simp) ?_
            refine AllReadyH.cons rfl (fun K hK => ?_) (AllReadyH.nil)
            · go_simp
              refine (HSH2.out _ HL2.out).mono ?_
              rintro e w3 ⟨a2, cap2, rfl, HN2, HX2⟩
              have HX2 : Hid (Below w2.heap.size w2 w3) := HX2
              have HL3 : Hid (Below (wr.heap.size + 1) (wr.alloc (.cells #[.int .i64 (T k).k, .slice (T k).a (T k).len (T k).cap, .int .i64 (T k).n, .int .i64 (T k).s, .int .i64 (U k).k, .slice (U k).a (U k).len (U k).cap, .int .i64 (U k).n, .int .i64 (U k).s, .int .i64 (V k).k, .slice (V k).a (V k).len (V k).cap, .int .i64 (V k).n, .int .i64 (V k).s] 41)) w3) := HL2.out.trans (HX2.out.mono (by have := HL2.out.size; (try simp at *); (try omega)))
              have HC2 : Hid (∀ w', w3.grownBy w' v.ownBlock → (convert 22 9 (.slice a2 n2 cap2)).run Tryz.prog w' = .ok (.string s2) w') := fun w' hw' => by rw [HS2.out]; exact (nw_grown HN2 hw' (fun b hb => by have := HOB.out b hb; have := HL2.out.size; (try simp at *); (try omega))).str
              have HG3 : Hid ((wr.alloc (.cells #[.int .i64 (T k).k, .slice (T k).a (T k).len (T k).cap, .int .i64 (T k).n, .int .i64 (T k).s, .int .i64 (U k).k, .slice (U k).a (U k).len (U k).cap, .int .i64 (U k).n, .int .i64 (U k).s, .int .i64 (V k).k, .slice (V k).a (V k).len (V k).cap, .int .i64 (V k).n, .int .i64 (V k).s] 41)).grownBy w3 v.ownBlock) := grown_of_below HL3.out
              go_wp2_with fail
              refine hK.out _ _ ?_ (fun hHeld => ?_)
              · exact grown_of_below HX2.out
              clear hK K
              try simp only [Act.put, List.setIfInBounds_toArray, List.set_cons_zero, List.set_cons_succ]
              refine wpAnyH_imp (S' := (fun w' => w3.grownBy w' v.ownBlock)) (fun w' h => (grown_of_below HX2.out).trans h) _ _ _ _ ?_
              have hHeld : w3.grownBy w3 v.ownBlock := grown_refl _ _
              refine take_at (i := 17) 32 (v := ?v15) rfl rfl (by kernel_rfl) (by kernel_rfl) (by kernel_rfl) (fun _ _ _ h => h) (Or.inl ⟨by rfl, ?y15⟩) hHeld ?r15
              case y15 => (intro w' hSw; have hcv := HC2.out w' hSw; go_simp; (try with_reducible rfl))
              simp only [Act.put, List.setIfInBounds_toArray, List.set_cons_zero, List.set_cons_succ]
              refine take_at (i := 18) 33 (v := ?v16) rfl rfl (by kernel_rfl) (by kernel_rfl) (by kernel_rfl) (fun _ _ _ h => h) (Or.inl ⟨by rfl, ?y16⟩) hHeld ?r16
              case y16 => (intro w' hSw; obtain ⟨k0, k1, k2⟩ := HLK.out w' (HG3.out.trans hSw); go_simp; (try with_reducible rfl))
              simp only [Act.put, List.setIfInBounds_toArray, List.set_cons_zero, List.set_cons_succ]
              refine take_at (i := 19) 34 (v := ?v17) rfl rfl (by kernel_rfl) (by kernel_rfl) (by kernel_rfl) (fun _ _ _ h => h) (Or.inl ⟨by rfl, ?y17⟩) hHeld ?r17
              case y17 => (intro w' hSw; skip; go_simp; (try with_reducible rfl))
              simp only [Act.put, List.setIfInBounds_toArray, List.set_cons_zero, List.set_cons_succ]
              refine wpAnyH_ready (rs := [20]) (by kernel_rfl) (by simp) ?_
              refine AllReadyH.cons rfl (fun K hK => ?_) AllReadyH.nil
              go_simp
              refine hK.out _ _ ?_ (fun hHeld => ?_)
              · exact World.grownBy_alloc _ _ _
              clear hK K
              try simp only [Act.put, List.setIfInBounds_toArray, List.set_cons_zero, List.set_cons_succ]
              refine wpAnyH_ready (rs := [21]) (by kernel_rfl) (by simp) ?_
              refine AllReadyH.cons rfl (fun K hK => ?_) AllReadyH.nil
              have HOa : OwnRR (w3.alloc (.cells #[.int .i64 c0, .int .i64 c1, .int .i64 c2] 45)) (w.heap.size + 1) v (gRows l T U V bt bu bv k) := (HO.out.below (((bl_a _).trans (HL3.out.mono (Nat.le_succ _))).trans ((bl_a _).mono (by have := HL3.out.size; simp at *; omega))))
              have hsz3 : w.heap.size + 1 ≤ (w3.alloc (.cells #[.int .i64 c0, .int .i64 c1, .int .i64 c2] 45)).heap.size := by have := HL3.out.size; simp at *; omega
              refine step_append_lies _ rfl (.tmp 15) (.tmp 35) 38 rfl (w.heap.size + 1) 45 i0 (.agg #[.int .i64 0, .int .i64 0, .int .i64 0]) 3 24 Tryz.underlying38 hi0 hi2 hi1 hi3 rfl (by omega) v _ _ rfl HOa.1 ⟨w3.heap.size, 0, none⟩ 1 1 [.int .i64 c0, .int .i64 c1, .int .i64 c2] rfl rfl (one_row w3 c0 c1 c2) (one_row1 c0 c1 c2) (by omega) (by rw [gRows_len]; unfold maxLen; omega) (by rw [gRows_len]; omega) hsz3 _ rfl ?_
              intro g3 cap3 w9 hown hgr hat hlt9
              refine hK.out _ _ ?_ (fun hHeld => ?_)
              · exact (World.grownBy_alloc _ _ _).trans hgr
              clear hK K
              try simp only [Act.put, List.setIfInBounds_toArray]
              refine take_at (i := 22) 5 (v := ?v18) rfl rfl (by kernel_rfl) (by kernel_rfl) (by kernel_rfl) (fun _ _ _ h => h) (Or.inl ⟨by rfl, ?y18⟩) hHeld ?r18
              case y18 => (intro w' hSw; skip; go_simp; (try with_reducible rfl))
              simp only [Act.put]
              refine wpAnyH_done (by kernel_rfl) ?_ _
              have HR := FIN.out w3 HL3.out g3 cap3 w9 hown hgr hlt9
              obtain ⟨v', hv', HO9, HB9⟩ := HR
              clear hown hgr hat hHeld HOa
              go_wp2
              go_roundw
              case rel => exact ⟨k + 1, v', by omega, by rw [← hv'], by go_num, HO9, HB9⟩
              case measure => simp [intOf]; omega
      · have hlkz : ¬ (k : Int) < (n : Int) := by omega
        have hkn : Hid (k = n) := (show k = n by omega)
        go_wp2
        go_ret
        have := HO.out.base (Nat.le_succ w.heap.size)
        rw [hkn.out] at this
        exact ⟨v, rfl, this, HWB.out⟩
end Go.Proofs.YtobnpfcgcoooeaaGreatDoor
