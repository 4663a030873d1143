/- Texts put together: StpE ShwI -/
import Derived.Test.YtobnpfcgcoooeaaGreatDoorMk32
import Derived.Test.YtobnpfcgcoooeaaGreatDoorMk19
import Derived.Test.YtobnpfcgcoooeaaGreatDoorShf
import Derived.WalkSmall
/- StpE -/
namespace Go.Proofs.YtobnpfcgcoooeaaGreatDoor
open Go.RowKit Go.Deep Go.Sort Go.Lib
set_option maxRecDepth 100000

theorem three_terms (w : World) (x y z : TB) (t : TypeId) : ∀ j u, (flat4 [x, y, z])[j]? = some u → (w.alloc (.cells #[.int .i64 x.t.k, .slice x.t.a x.t.len x.t.cap, .int .i64 x.t.n, .int .i64 x.t.s, .int .i64 y.t.k, .slice y.t.a y.t.len y.t.cap, .int .i64 y.t.n, .int .i64 y.t.s, .int .i64 z.t.k, .slice z.t.a z.t.len z.t.cap, .int .i64 z.t.n, .int .i64 z.t.s] t)).cell? ((⟨w.heap.size, 0, none⟩ : Addr).add j) = some u := by
  intro j u hj
  have ea : (⟨w.heap.size, 0, none⟩ : Addr).add j = ⟨w.heap.size, j, none⟩ := by
    by_cases h0 : j = 0 <;> simp [Addr.add, h0]
  rw [ea]
  have e : flat4 [x, y, z] = [.int .i64 x.t.k, .slice x.t.a x.t.len x.t.cap, .int .i64 x.t.n, .int .i64 x.t.s, .int .i64 y.t.k, .slice y.t.a y.t.len y.t.cap, .int .i64 y.t.n, .int .i64 y.t.s, .int .i64 z.t.k, .slice z.t.a z.t.len z.t.cap, .int .i64 z.t.n, .int .i64 z.t.s] := rfl
  rw [e] at hj
  simp only [go_sem]
  simp
  exact hj

set_option maxHeartbeats 1000000 in
theorem compact0 (fv : Value) (w : World) : Calls Tryz.prog 43 #[.slice none 0 0, fv] w fun e w' => e = .returned (.slice none 0 0) ∧ w' = w := by
  go_enter Tryz.func43, Tryz.ntmps43
  go_wp2
  go_ret
  exact ⟨rfl, rfl⟩

/-- The first k terms have texts of their own. -/
structure Cloned (r : List TB) (B' : Nat) (W : World) (k : Nat) (L : List TB) : Prop where
  td : L.map TB.td = r.map TB.td
  rest : ∀ i, k ≤ i → L[i]? = r[i]?
  own : ∀ i y, i < k → L[i]? = some y → OwnY W B' y.t.a y.t.len y.t.cap y.b
  ord : ∀ i j x y, i < j → j < k → L[i]? = some x → L[j]? = some y → ∀ p q, x.t.a = some p → y.t.a = some q → p.block < q.block
  siz : B' ≤ W.heap.size
theorem OwnY.base {w : World} {B B' : Nat} {a : Option Addr} {len cap : Nat} {bs : List Int} (h : OwnY w B' a len cap bs) (hB : B ≤ B') : OwnY w B a len cap bs := by
  obtain ⟨⟨h1, h2⟩, h3, h4⟩ := h
  refine ⟨⟨h1, h2.imp id fun ⟨g, c, cur, hv, hb, r⟩ => ⟨g, c, cur, hv, Nat.le_trans hB hb, r⟩⟩, fun ad ha => ⟨Nat.le_trans hB (h3 ad ha).1, (h3 ad ha).2⟩, h4⟩
theorem Cloned.step {r : List TB} {B' : Nat} {W W' : World} {k M : Nat} {L : List TB} (h : Cloned r B' W k L) (x y : TB) (hx : L[k]? = some x) (hy : y.td = x.td) (hM : W.heap.size ≤ M) (hY : OwnY W' M y.t.a y.t.len y.t.cap y.b)
    (hb : ∀ b, B' ≤ b → b < W.heap.size → W'.heap[b]? = W.heap[b]?) (hs : W.heap.size ≤ W'.heap.size) : Cloned r B' W' (k + 1) (L.set k y) := by
  obtain ⟨hk, hxe⟩ := List.getElem?_eq_some_iff.1 hx
  have hset : ∀ i, i ≠ k → (L.set k y)[i]? = L[i]? := fun i hi => by rw [List.getElem?_set_ne (by omega)]
  have hself : (L.set k y)[k]? = some y := by rw [List.getElem?_set_self hk]
  refine ⟨?_, fun i hi => ?_, fun i z hi hz => ?_, fun i j z z' hij hj hz hz' p q hp hq => ?_, Nat.le_trans h.siz hs⟩
  · rw [← h.td]
    apply List.ext_getElem?
    intro i
    rw [List.getElem?_map, List.getElem?_map]
    by_cases hi : i = k
    · subst hi
      rw [hself, hx]
      simp [hy]
    · rw [hset i hi]
  · rw [hset i (by omega)]
    exact h.rest i (by omega)
  · by_cases hik : i = k
    · subst hik
      rw [hself] at hz
      cases hz
      exact hY.base (Nat.le_trans h.siz hM)
    · rw [hset i hik] at hz
      exact (h.own i z (by omega) hz).upper hb hs
  · rw [hset i (by omega)] at hz
    by_cases hjk : j = k
    · subst hjk
      rw [hself] at hz'
      cases hz'
      have h1 := ((h.own i z (by omega) hz).2.1 p hp).2
      have h2 := (hY.2.1 q hq).1
      omega
    · rw [hset j hjk] at hz'
      exact h.ord i j z z' hij (by omega) hz hz' p q hp hq

set_option maxHeartbeats 8000000 in
theorem termsOf_any (a : Option Addr) (n cap : Nat) (T U V : Nat → Tm) (bt bu bv : Nat → List Int) (w : World) (hn : n ≤ 60) (hR : Rows w a n T U V) (hg : ∀ y, InG n T U V bt bu bv y → y.good ∧ Bs w y.t.a y.t.len y.b) :
    Calls Tryz.prog 15 #[.agg #[.slice a n cap]] w (TermsRes w n T U V bt bu bv) := by
  by_cases hn0 : n = 0
  · subst hn0
    have h2 := fun w => AnyF.slices_SortFunc_none Tryz.sortTerm none 0 (.func (.func 42) #[] #[]) w
    have h3 := compact0 (.func (.func 23) #[] #[])
    clear hR hg
    go_enter Tryz.func15, Tryz.ntmps15
    go_wp2
    refine wp_loop_rounds 1 ?_
    rw [rounds_succ]
    go_wp2_with fail
    refine (h2 _).mono ?_
    rintro e w1 ⟨rfl, rfl⟩
    go_wp2_with fail
    refine (h3 _).mono ?_
    rintro e w1 ⟨rfl, rfl⟩
    go_wp2
    refine wp_loop_rounds 1 ?_
    rw [rounds_succ]
    go_wp2
    go_ret
    exact ⟨.slice none 0 0, [], w.heap.size, rfl, OwnTR.nil _ _, ⟨List.Pairwise.nil, fun x => by simp [allT]⟩, by simp, bl_a _, Nat.le_refl _, fun g h => (by cases h), fun y hy => (by cases hy), List.Pairwise.nil⟩
  · obtain ⟨b, off, rfl, hlt, hc⟩ := hR.resolve_left hn0
    have HC : Hid (∀ i, i < n → Row12 w b (off + i * 12) (T i) (U i) (V i)) := hc
    have HGD : Hid (∀ y, InG n T U V bt bu bv y → y.good ∧ Bs w y.t.a y.t.len y.b) := hg
    have hn1 : 1 ≤ n := by omega
    clear hR hc hg
    go_enter Tryz.func15, Tryz.ntmps15
    go_wp2
    go_loopw [3, 11] (fun v3 v11 wr => ∃ (k : Nat) (v : Value), k ≤ n ∧ v = v3 ∧ v11 = .int .i64 k ∧ Hid (OwnTR wr (w.heap.size + 1) v (gTB T U V bt bu bv k)) ∧ Hid (Below (w.heap.size + 1) (w.alloc (.cells #[.slice (some ⟨b, off, none⟩) n cap] 25)) wr))
      (fun _ v11 _ => n - (intOf v11).toNat)
    case atStart => exact ⟨0, _, Nat.zero_le _, rfl, rfl, OwnTR.nil _ _, Below.refl _ _⟩
    case round =>
      obtain ⟨k, v, hk, rfl, rfl, HO, HB⟩ := hrel
      have HWB : Hid (Below w.heap.size w wr) := (bl_a _).trans (HB.out.mono (Nat.le_succ _))
      have hsz : w.heap.size + 1 ≤ wr.heap.size := by have := HB.out.size; simpa using this
      by_cases hlk : k < n
      · have hlkz : (k : Int) < (n : Int) := by omega
        obtain ⟨⟨x0, x1, x2, x3⟩, ⟨x4, x5, x6, x7⟩, ⟨x8, x9, xa, xb⟩⟩ := (HC.out k hlk).of_block (HWB.out.block b hlt)
        have HO2 := fun o1 o2 => (show Hid (OwnTR ((wr.alloc o1).alloc o2) (w.heap.size + 1) v (gTB T U V bt bu bv k)) from HO.out.below (bl_alloc (bl_a o1) o2))
        have HN := fun o1 => (show Hid _ from three_terms (wr.alloc o1) ⟨T k, bt k⟩ ⟨U k, bu k⟩ ⟨V k, bv k⟩ 37)
        simp only [World.size_alloc] at HN
        have hs2 : ∀ o1 o2, w.heap.size + 1 ≤ ((wr.alloc o1).alloc o2).heap.size := fun o1 o2 => by simp; omega
        have HBA := fun o1 o2 => (show Hid (Below (w.heap.size + 1) wr ((wr.alloc o1).alloc o2)) from (bl_alloc (bl_a o1) o2).mono hsz)
        go_wp2_with (refine appT rfl (.tmp 15) (.tmp 22) rfl (w.heap.size + 1) v (gTB T U V bt bu bv k) rfl (HO2 _ _) ⟨wr.heap.size + 1, 0, none⟩ 3 3 [⟨T k, bt k⟩, ⟨U k, bu k⟩, ⟨V k, bv k⟩] rfl rfl (HN _) (by omega) (3 * (k + 1)) (by rw [gTB_len]; omega) (gTB T U V bt bu bv (k + 1)) (gTB_succ _ _ _ _ _ _ k).symm (by omega) (hs2 _ _) ?_; intro g3 c3 w3 HO3 hgx hax HBx; have HB3 : Hid (Below (w.heap.size + 1) (w.alloc (.cells #[.slice (some ⟨b, off, none⟩) n cap] 25)) w3) := HB.out.trans ((HBA _ _).out.trans HBx.out); clear hgx hax HBx HO2 HN hs2 HBA)
        go_roundw
        case rel => exact ⟨k + 1, _, by omega, rfl, by go_num, HO3, HB3⟩
        case measure => simp [intOf]; omega
      · have hlkz : ¬ (k : Int) < (n : Int) := by omega
        have hkn : Hid (k = n) := (show k = n by omega)
        rw [hkn.out] at HO
        clear hlk hk
        obtain ⟨g, capg, rfl⟩ : ∃ g c, v = .slice (some ⟨g, 0, none⟩) (3 * n) c := by
          rcases HO.out.1.2 with ⟨_, h⟩ | ⟨g, c, cur, hv, _⟩
          · rw [gTB_len] at h; omega
          · rw [gTB_len] at hv; exact ⟨g, c, hv⟩
        have HG2 : Hid (∀ y ∈ gTB T U V bt bu bv n, y.good ∧ ∀ W, Below (w.heap.size + 1) wr W → Bs W y.t.a y.t.len y.b) := fun y hy => by
          have h := HGD.out y (gTB_in (Nat.le_refl _) hy)
          exact ⟨h.1, fun W hW => h.2.below (HWB.out.trans (hW.mono (Nat.le_succ _)))⟩
        have hne : gTB T U V bt bu bv n ≠ [] := fun e => by
          have := gTB_len T U V bt bu bv n
          rw [e] at this
          simp at this
          omega
        have h2 := sortT (w.heap.size + 1) g (3 * n) capg (gTB T U V bt bu bv n) wr HO.out (gTB_len ..) (by omega) hne HG2.out
        go_wp2_with fail
        refine h2.mono ?_
        rintro e w2 ⟨rfl, l', hp, hs', HO2, HB2⟩
        have HG3 : ∀ y ∈ l', y.good ∧ ∀ W, Below (w.heap.size + 1) w2 W → Bs W y.t.a y.t.len y.b := fun y hy => by
          have h := HG2.out y (hp.mem_iff.1 hy)
          exact ⟨h.1, fun W hW => h.2 W (HB2.trans hW)⟩
        have hne' : l' ≠ [] := fun e => by
          rw [e] at hp
          exact hne (List.nil_perm.1 hp)
        have h3 := compactT (w.heap.size + 1) g (3 * n) capg l' w2 HO2 (by omega) hne' HG3 hs'
        have HP : Hid (l'.Perm (gTB T U V bt bu bv n)) := hp
        have HB2 : Hid (Below (w.heap.size + 1) wr w2) := HB2
        have HG3 : Hid (∀ y ∈ l', y.good ∧ ∀ W, Below (w.heap.size + 1) w2 W → Bs W y.t.a y.t.len y.b) := HG3
        clear h2 hp hs' HO2 hne hne'
        go_wp2_with fail
        refine h3.mono ?_
        rintro e w3 ⟨r, n', rfl, HO3, HB3, HCD⟩
        have HO3 : Hid (OwnTR w3 (w.heap.size + 1) (.slice (some ⟨g, 0, none⟩) n' capg) r) := HO3
        have HB3 : Hid (Below (w.heap.size + 1) w2 w3) := HB3
        have HCD : Hid (Cmpd l' (3 * n) r) := HCD
        obtain ⟨_, _, hnc, hcm, _, _, hnl, hBg, hgw⟩ := ownT_cells HO3.out
        have HNL : Hid (n' = r.length) := hnl
        have hn' : n' ≤ 180 := by
          have := HCD.out.len
          omega
        have hnc' : (n' : Int) ≤ 180 := by omega
        have hgB : Hid (g < w3.heap.size) := hgw
        clear h3 hnl
        go_wp2
        go_loopw [31] (fun v31 wr2 => ∃ (k : Nat) (L : List TB), k ≤ n' ∧ v31 = .int .i64 k ∧ Hid (OwnTR wr2 (w.heap.size + 1) (.slice (some ⟨g, 0, none⟩) n' capg) L) ∧ Hid (Below (w.heap.size + 1) w3 wr2) ∧ Hid (Cloned r w3.heap.size wr2 k L))
          (fun v31 _ => n' - (intOf v31).toNat)
        case atStart => exact ⟨0, r, Nat.zero_le _, rfl, HO3, Below.refl _ _, ⟨rfl, fun _ _ => rfl, fun i y hi => by omega, fun i j x y hij hj => by omega, Nat.le_refl _⟩⟩
        case round =>
          obtain ⟨k, L, hk, rfl, HO4, HB4, HCL⟩ := hrel
          by_cases hlk : k < n'
          · have hlkz : (k : Int) < (n' : Int) := by omega
            obtain ⟨x, hx⟩ : ∃ x, r[k]? = some x := ⟨r[k]'(by rw [← HNL.out]; exact hlk), List.getElem?_eq_getElem _⟩
            have hLx : L[k]? = some x := (HCL.out.rest k (Nat.le_refl _)).trans hx
            have HLX : Hid (L[k]? = some x) := hLx
            obtain ⟨m0, m1, m2, m3⟩ := ownT_at HO4.out k x hLx
            have f1 := ownT_fr HO4.out (k * 4 + 1)
            have hxg := HG3.out x (HCD.out.sub x (List.mem_of_getElem? hx))
            have hcl := fun o => cloneB x.t.a x.t.len x.t.cap x.b (wr.alloc o) (hxg.2 (wr.alloc o) (HB3.out.trans (HB4.out.trans ((bl_a o).mono (by have := HB.out.size; have := HB2.out.size; have := HB3.out.size; have := HB4.out.size; simp at *; omega)))))
            have hgw4 : Hid (g < wr.heap.size) := (show g < wr.heap.size from Nat.lt_of_lt_of_le hgB.out HB4.out.size)
            clear hx hLx hxg
            go_wp2_with fail
            refine (hcl _).mono ?_
            rintro e w4 ⟨a', cap', rfl, HY, HB5⟩
            clear hcl
            have HY : Hid (OwnY w4 (wr.heap.size + 1) a' x.t.len cap' x.b) := (show OwnY _ _ _ _ _ _ by simpa using HY)
            have HB5 : Hid (Below (wr.heap.size + 1) (wr.alloc (.cells #[.int .i64 x.t.k, .slice x.t.a x.t.len x.t.cap, .int .i64 x.t.n, .int .i64 x.t.s] 37)) w4) := (show Below _ _ _ by simpa using HB5)
            have HO5 : Hid (OwnTR w4 (w.heap.size + 1) (.slice (some ⟨g, 0, none⟩) n' capg) L) := (HO4.out.below ((bl_a _).trans (HB5.out.mono (Nat.le_succ _))))
            obtain ⟨q0, q1, q2, q3⟩ := ownT_at HO5.out k x HLX.out
            have p1 := ownT_fr HO5.out (k * 4 + 1)
            clear m0 m1 m2 m3 f1
            go_wp2
            go_roundw
            case rel =>
              refine ⟨k + 1, L.set k ⟨{ x.t with a := a', cap := cap' }, x.b⟩, by omega, by go_num, (show OwnTR _ _ _ _ from ?_), (show Below _ _ _ from ?_), (show Cloned _ _ _ _ _ from ?_)⟩
              · exact ownT_text HO5.out k x ⟨{ x.t with a := a', cap := cap' }, x.b⟩ HLX.out ⟨rfl, rfl, rfl⟩
              · refine Below.setCell (HB4.out.trans (((bl_a _).trans (HB5.out.mono (Nat.le_succ _))).mono ?_)) (p := ⟨g, k * 4 + 1, none⟩) hBg _
                have := HB.out.size; have := HB2.out.size; have := HB3.out.size; have := HB4.out.size; simp at *; omega
              · have hg1 := hgB.out
                have hg2 := hgw4.out
                refine HCL.out.step x ⟨{ x.t with a := a', cap := cap' }, x.b⟩ HLX.out rfl (Nat.le_succ _) (HY.out.upper (fun b hb _ => ?_) (by simp [World.setCell])) (fun b hb hb2 => ?_) ?_
                · exact Below.heap_setCell _ _ _ _ (show b ≠ g by omega)
                · rw [Below.heap_setCell _ _ _ _ (show b ≠ g by omega), HB5.out.block b (by omega)]
                  exact Below.heap_alloc _ _ _ hb2
                · have := HB5.out.size
                  simp [World.setCell] at *
                  omega
            case measure => simp [intOf]; omega
          · have hlkz : ¬ (k : Int) < (n' : Int) := by omega
            have hkn2 : Hid (k = n') := (show k = n' by omega)
            go_wp2
            go_ret
            have hL : L.length = n' := by
              have := congrArg List.length HCL.out.td
              rw [List.length_map, List.length_map, ← HNL.out] at this
              exact this
            have hgB' := hgB.out
            have hmem : ∀ t, t ∈ L.map TB.td ↔ t ∈ allT T U V bt bu bv n := fun t => by
              rw [HCL.out.td, HCD.out.mem, List.take_of_length_le (by rw [HP.out.length_eq, gTB_len]; exact Nat.le_refl _), ← gTB_td]
              exact (HP.out.map TB.td).mem_iff
            refine ⟨_, L, w3.heap.size, rfl, HO4.out.base (Nat.le_succ _), ⟨?_, hmem⟩, ?_, ?_, ?_, fun g' hg' => ?_, fun y hy => ?_, ?_⟩
            · rw [HCL.out.td]
              exact HCD.out.asc
            · have := HCD.out.len
              have := HNL.out
              omega
            · exact HWB.out.trans ((HB2.out.trans (HB3.out.trans HB4.out)).mono (Nat.le_succ _))
            · have := HB.out.size; have := HB2.out.size; have := HB3.out.size; simp at *; omega
            · have : g = g' := by simpa [Value.ownBlock] using hg'
              omega
            · obtain ⟨i, hi, rfl⟩ := List.mem_iff_getElem.1 hy
              exact HCL.out.own i _ (by rw [hkn2.out]; omega) (List.getElem?_eq_getElem hi)
            · rw [List.pairwise_iff_getElem]
              intro i j hi hj hij
              exact HCL.out.ord i j _ _ hij (by rw [hkn2.out]; omega) (List.getElem?_eq_getElem hi) (List.getElem?_eq_getElem hj)
end Go.Proofs.YtobnpfcgcoooeaaGreatDoor

/- ShwI -/
namespace Go.Proofs.YtobnpfcgcoooeaaGreatDoor
open Go.RowKit Go.Deep
set_option maxRecDepth 100000

/-- The library's table of powers of ten lies as it is written. -/
def Tab (w : World) : Prop := Lib.TabIs Tryz.prog w "internal/strconv.uint64pow10" .u64 Lib.pow10Tab
theorem tab_lt {w : World} (h : Tab w) : ∃ g, Tryz.prog.globalNamed "internal/strconv.uint64pow10" = some g ∧ g < w.heap.size := by
  unfold Tab Lib.TabIs World.var? at h
  cases hg : Tryz.prog.globalNamed "internal/strconv.uint64pow10" with
  | none => rw [hg] at h; cases h
  | some g =>
    refine ⟨g, rfl, ?_⟩
    apply Classical.byContradiction
    intro hn
    rw [hg] at h
    simp only [Option.bind_some] at h
    rw [Array.getElem?_eq_none (by omega)] at h
    cases h
theorem Tab.below {w w' : World} (h : Tab w) (hb : Below w.heap.size w w') : Tab w' := by
  obtain ⟨g, hg, hlt⟩ := tab_lt h
  exact var?_below hb hg hlt h

theorem below_grow (w : World) (k : Nat) (os : Array Obj) : Below w.heap.size w (Go.Sort.grow (w.drewN k) os) := by
  have h0 : Below w.heap.size w (w.drewN k) := below_drewN (Below.refl _ _) k
  refine ⟨h0.os, h0.tape, h0.output, ?_, fun b hb => ?_⟩
  · simp
  · rw [Go.Sort.heap_grow_old _ _ (by simpa using hb)]
    exact h0.block b hb

theorem decDigits_nums (n : Nat) : (Lib.decDigits n).map (fun b => (b.toNat : Int)) = digitsL n := by
  induction n using Nat.strongRecOn with
  | ind n ih =>
    rw [Lib.decDigits]
    split
    · rename_i h
      rw [digitsL_small h]
      simp
      omega
    · rename_i h
      rw [digitsL_step h, List.map_append, ih (n / 10) (by omega)]
      simp
      omega

/-- What a text is told as. -/
def StrRes (w : World) (bs : List Int) (e : Ending) (w' : World) : Prop := ∃ s, e = .returned (.string s) ∧ numsOf s = bs ∧ Below w.heap.size w w'
theorem itoa_any (n : Int) (w : World) (h0 : 0 ≤ n) (h1 : n ≤ 9223372036854775807) (ht : Tab w) :
    Calls Tryz.prog 59 #[.int .i64 n] w fun e w' => StrRes w (digitsL n.toNat) e w' := by
  refine (Tryz.strconv_Itoa n (by omega) h1 w ht).mono ?_
  rintro e w' ⟨rfl, k, os, rfl⟩
  refine ⟨_, rfl, ?_, below_grow _ _ _⟩
  have hn : ¬ n < 0 := by omega
  simp only [numsOf, Lib.itoa, hn, if_false]
  exact decDigits_nums n.toNat

theorem repeatL_nums (c : Nat) : (Lib.repeatL [48] c).map (fun b : UInt8 => (b.toNat : Int)) = List.replicate c 48 := by
  induction c with
  | zero => rfl
  | succ c ih =>
    rw [Lib.repeatL, List.map_append, ih, List.replicate_succ]
    rfl
theorem repeat0_any (c : Nat) (w : World) (h : c ≤ 1000) :
    Calls Tryz.prog 87 #[.string ⟨#[48]⟩, .int .i64 c] w fun e w' => StrRes w (List.replicate c 48) e w' := by
  refine (Tryz.strings_Repeat ⟨#[48]⟩ c w (by omega) (by show 1 * c ≤ _; omega)).mono ?_
  rintro e w' ⟨rfl, hb⟩
  exact ⟨_, rfl, by simp only [numsOf]; exact repeatL_nums c, hb⟩

theorem size_pos (n : Int) (w : World) (h : 0 ≤ n) : Calls Tryz.prog 86 #[.int .i64 n] w fun e w' => e = .returned (.int .i64 n) ∧ w' = w := by
  go_enter Tryz.func86, Tryz.ntmps86
  go_wp2
  go_ret
  exact ⟨rfl, rfl⟩
theorem size_neg (n : Int) (w : World) (h : 0 < n) (h1 : n ≤ 9223372036854775807) : Calls Tryz.prog 86 #[.int .i64 (-n)] w fun e w' => e = .returned (.int .i64 n) ∧ w' = w := by
  go_enter Tryz.func86, Tryz.ntmps86
  go_wp2
  go_ret
  exact ⟨rfl, rfl⟩

/-- A box of two. -/
def At2 (w : World) (b : Nat) (v0 v1 : Value) : Prop := b < w.heap.size ∧ w.cell? ⟨b, 0, none⟩ = some v0 ∧ w.cell? ⟨b, 1, none⟩ = some v1
theorem At2.below {w w' : World} {b : Nat} {v0 v1 : Value} (h : At2 w b v0 v1) (hb : Below w.heap.size w w') : At2 w' b v0 v1 := by
  obtain ⟨hl, h0, h1⟩ := h
  exact ⟨Nat.lt_of_lt_of_le hl hb.size, (hb.cell (p := ⟨b, 0, none⟩) hl).trans h0, (hb.cell (p := ⟨b, 1, none⟩) hl).trans h1⟩
theorem At2.new (w : World) (v0 v1 : Value) (t : TypeId) : At2 (w.alloc (.cells #[v0, v1] t)) w.heap.size v0 v1 := by
  refine ⟨by simp, by simp [go_sem], by simp [go_sem]⟩

theorem p10_nat (s : Nat) : p10 s = ((10 ^ s : Nat) : Int) := by
  induction s with
  | zero => rfl
  | succ s ih =>
    rw [Nat.pow_succ]
    simp only [p10, ih]
    omega
theorem numsOf_nil : numsOf ⟨#[]⟩ = [] := rfl

set_option maxHeartbeats 1000000 in
theorem text_pos (n : Int) (s : Nat) (w : World) (hs : s ≤ 6) (hn : 0 ≤ n) (hn' : n ≤ 1000000000000000) (ht : Tab w) :
    Calls Tryz.prog 61 #[.agg #[.int .i64 n, .int .i64 s]] w fun e w' => StrRes w (numL n s) e w' := by
  have P := fun w => tenTo_any s w hs
  have hp := p10_pos s
  have hp6 := p10_le hs
  have d0 : 0 ≤ n / p10 s := Int.ediv_nonneg hn (by omega)
  have d1 : n / p10 s ≤ n := Int.ediv_le_self _ hn
  have m0 : 0 ≤ n % p10 s := Int.emod_nonneg _ (by omega)
  have m1 : n % p10 s < p10 s := Int.emod_lt_of_pos _ (by omega)
  have I1 := fun w ht => itoa_any (n / p10 s) w d0 (by omega) ht
  have I2 := fun w ht => itoa_any (n % p10 s) w m0 (by omega) ht
  have hL1 := digitsL_len 16 (n / p10 s).toNat (by omega)
  have hL2 : s ≠ 0 → (digitsL (n % p10 s).toNat).length ≤ s := fun h0 => by
    have := digitsL_len (s - 1) (n % p10 s).toNat (by have := p10_nat s; rw [show s - 1 + 1 = s by omega]; omega)
    omega
  have HA := At2.new w (.int .i64 n) (.int .i64 s) 86
  have HT : Hid (Tab (w.alloc (.cells #[.int .i64 n, .int .i64 s] 86))) := ht.below (bl_a _)
  have SZ := fun w => size_pos n w hn
  unfold numL
  generalize digitsL (n / p10 s).toNat = d at *
  generalize digitsL (n % p10 s).toNat = f at *
  go_enter Tryz.func61, Tryz.ntmps61
  go_wp2_with fail
  refine (P _).mono ?_
  rintro e w1 ⟨rfl, rfl⟩
  go_wp2_with fail
  refine (SZ _).mono ?_
  rintro e w1 ⟨rfl, rfl⟩
  go_wp2_with fail
  refine (I1 _ HT.out).mono ?_
  rintro e w2 ⟨s1, rfl, hs1, hb1⟩
  obtain ⟨ha0, ha1, ha2⟩ := HA.below hb1
  have HB2 : Hid (Below w.heap.size w w2) := bl_trans (bl_a _) hb1
  have HT2 : Hid (Tab w2) := HT.out.below hb1
  have HS1 : Hid (numsOf s1 = d) := hs1
  have hz1 : s1.size ≤ 17 := by rw [← numsOf_len, hs1]; omega
  clear hb1 hs1 HT HA I1 P
  by_cases hs0 : s = 0
  · go_wp2_with fail
    go_ret
    refine ⟨_, rfl, ?_, HB2.out⟩
    simp [HS1.out, numsOf_append, numsOf_nil]
  · go_wp2_with fail
    refine (SZ _).mono ?_
    rintro e w3 ⟨rfl, rfl⟩
    go_wp2_with fail
    refine (I2 _ HT2.out).mono ?_
    rintro e w4 ⟨s2, rfl, hs2, hb4⟩
    have ha4 := (hb4.cell (p := ⟨w.heap.size, 1, none⟩) ha0).trans ha2
    have HB4 : Hid (Below w.heap.size w w4) := bl_trans HB2.out hb4
    have hz : s2.size = f.length := by rw [← numsOf_len, hs2]
    have HS2 : Hid (numsOf s2 = f) := hs2
    clear hb4 hs2 I2 HT2 SZ
    have hf := hL2 hs0
    have R : ∀ c : Int, c = ((s - f.length : Nat) : Int) → ∀ w, Calls Tryz.prog 87 #[.string ⟨#[48]⟩, .int .i64 c] w fun e w' => StrRes w (List.replicate (s - f.length) 48) e w' := fun c hc w => by
      rw [hc]
      exact repeat0_any (s - f.length) w (by omega)
    go_wp2_with fail
    refine (R _ (by omega) _).mono ?_
    rintro e w5 ⟨s3, rfl, hs3, hb5⟩
    have hz3 : s3.size ≤ 6 := by rw [← numsOf_len, hs3]; simp; omega
    have HB5 : Hid (Below w.heap.size w w5) := bl_trans HB4.out hb5
    have HS3 : Hid (numsOf s3 = List.replicate (s - f.length) 48) := hs3
    clear hb5 hs3 R
    go_wp2_with fail
    go_ret
    refine ⟨_, rfl, ?_, HB5.out⟩
    simp only [numsOf_append, numsOf_nil, HS1.out, HS2.out, HS3.out]
    simp [numsOf]
set_option maxHeartbeats 1000000 in
theorem text_neg (n : Int) (s : Nat) (w : World) (hs : s ≤ 6) (hn1 : 0 < n) (hn' : n ≤ 1000000000000000) (ht : Tab w) :
    Calls Tryz.prog 61 #[.agg #[.int .i64 (-n), .int .i64 s]] w fun e w' => StrRes w (45 :: numL n s) e w' := by
  have hn : 0 ≤ n := by omega
  have P := fun w => tenTo_any s w hs
  have hp := p10_pos s
  have hp6 := p10_le hs
  have d0 : 0 ≤ n / p10 s := Int.ediv_nonneg hn (by omega)
  have d1 : n / p10 s ≤ n := Int.ediv_le_self _ hn
  have m0 : 0 ≤ n % p10 s := Int.emod_nonneg _ (by omega)
  have m1 : n % p10 s < p10 s := Int.emod_lt_of_pos _ (by omega)
  have I1 := fun w ht => itoa_any (n / p10 s) w d0 (by omega) ht
  have I2 := fun w ht => itoa_any (n % p10 s) w m0 (by omega) ht
  have hL1 := digitsL_len 16 (n / p10 s).toNat (by omega)
  have hL2 : s ≠ 0 → (digitsL (n % p10 s).toNat).length ≤ s := fun h0 => by
    have := digitsL_len (s - 1) (n % p10 s).toNat (by have := p10_nat s; rw [show s - 1 + 1 = s by omega]; omega)
    omega
  have HA := At2.new w (.int .i64 (-n)) (.int .i64 s) 86
  have HT : Hid (Tab (w.alloc (.cells #[.int .i64 (-n), .int .i64 s] 86))) := ht.below (bl_a _)
  have SZ := fun w => size_neg n w hn1 (by omega)
  unfold numL
  generalize digitsL (n / p10 s).toNat = d at *
  generalize digitsL (n % p10 s).toNat = f at *
  go_enter Tryz.func61, Tryz.ntmps61
  go_wp2_with fail
  refine (P _).mono ?_
  rintro e w1 ⟨rfl, rfl⟩
  go_wp2_with fail
  refine (SZ _).mono ?_
  rintro e w1 ⟨rfl, rfl⟩
  go_wp2_with fail
  refine (I1 _ HT.out).mono ?_
  rintro e w2 ⟨s1, rfl, hs1, hb1⟩
  obtain ⟨ha0, ha1, ha2⟩ := HA.below hb1
  have HB2 : Hid (Below w.heap.size w w2) := bl_trans (bl_a _) hb1
  have HT2 : Hid (Tab w2) := HT.out.below hb1
  have HS1 : Hid (numsOf s1 = d) := hs1
  have hz1 : s1.size ≤ 17 := by rw [← numsOf_len, hs1]; omega
  clear hb1 hs1 HT HA I1 P
  by_cases hs0 : s = 0
  · go_wp2_with fail
    go_ret
    refine ⟨_, rfl, ?_, HB2.out⟩
    simp [HS1.out, numsOf_append]
    rfl
  · go_wp2_with fail
    refine (SZ _).mono ?_
    rintro e w3 ⟨rfl, rfl⟩
    go_wp2_with fail
    refine (I2 _ HT2.out).mono ?_
    rintro e w4 ⟨s2, rfl, hs2, hb4⟩
    have ha4 := (hb4.cell (p := ⟨w.heap.size, 1, none⟩) ha0).trans ha2
    have HB4 : Hid (Below w.heap.size w w4) := bl_trans HB2.out hb4
    have hz : s2.size = f.length := by rw [← numsOf_len, hs2]
    have HS2 : Hid (numsOf s2 = f) := hs2
    clear hb4 hs2 I2 HT2 SZ
    have hf := hL2 hs0
    have R : ∀ c : Int, c = ((s - f.length : Nat) : Int) → ∀ w, Calls Tryz.prog 87 #[.string ⟨#[48]⟩, .int .i64 c] w fun e w' => StrRes w (List.replicate (s - f.length) 48) e w' := fun c hc w => by
      rw [hc]
      exact repeat0_any (s - f.length) w (by omega)
    go_wp2_with fail
    refine (R _ (by omega) _).mono ?_
    rintro e w5 ⟨s3, rfl, hs3, hb5⟩
    have hz3 : s3.size ≤ 6 := by rw [← numsOf_len, hs3]; simp; omega
    have HB5 : Hid (Below w.heap.size w w5) := bl_trans HB4.out hb5
    have HS3 : Hid (numsOf s3 = List.replicate (s - f.length) 48) := hs3
    clear hb5 hs3 R
    go_wp2_with fail
    go_ret
    refine ⟨_, rfl, ?_, HB5.out⟩
    simp only [numsOf_append, HS1.out, HS2.out, HS3.out]
    simp [numsOf]
end Go.Proofs.YtobnpfcgcoooeaaGreatDoor
