/- Texts put together: TreE -/
import Derived.Test.YtpgbhkkdbkecoaaMk06
/- TreE -/
namespace Go.Proofs.Ytpgbhkkdbkecoaa
open Go.RowKit Go.Deep
set_option maxRecDepth 100000

def TB.lies (B : Nat) (w : World) (x : TB) : Prop := BsF B w x.sl ∧ x.t.fits
def TB.same (x y : TB) : Prop := x.td = y.td
theorem TB.lies.upper {B : Nat} {w w' : World} {x : TB} (h : x.lies B w) (hu : Upper B w w') : x.lies B w' := ⟨h.1.upper hu, h.2⟩
theorem TB.lies.base {B B' : Nat} {w : World} {x : TB} (h : x.lies B w) (hB : B' ≤ B) : x.lies B' w := ⟨h.1.base hB, h.2⟩
def TB0 : TB := ⟨⟨0, none, 0, 0, 0, 0⟩, []⟩
def tbG (l : List TB) (i : Nat) : TB := l[i]?.getD TB0
theorem tbG_at {l : List TB} {i : Nat} (h : i < l.length) : tbG l i = l[i] ∧ l[i] ∈ l := by
  refine ⟨?_, List.getElem_mem h⟩
  unfold tbG
  rw [List.getElem?_eq_getElem h]
  rfl
theorem trow_krow {B : Nat} {w : World} {a : Option Addr} {l : List TB} (h : TRowF B w a l) : KRow B w 4 a l.length (fun i => enc4 (tbG l i).t) := by
  obtain ⟨h1, h2, _⟩ := h
  rcases h1 with e | ⟨b, off, ha, hlt, hc⟩
  · exact .inl (by rw [e]; rfl)
  · by_cases h0 : l = []
    · exact .inl (by rw [h0]; rfl)
    · refine .inr ⟨b, off, ha, (h2.resolve_left h0) _ ha, hlt, fun i hi c u hu => ?_⟩
      dsimp only at hu
      rw [(tbG_at hi).1] at hu
      have hc4 : c < 4 := (List.getElem?_eq_some_iff.1 hu).1
      have := hc (i * 4 + c) u (by rw [flat4_get l i c hi hc4]; exact hu)
      rw [Nat.add_assoc]
      exact this
theorem krow_trow {B : Nat} {w : World} {g n : Nat} {f : Nat → TB} (h : KRow B w 4 (some ⟨g, 0, none⟩) n (fun i => enc4 (f i).t)) (hl : ∀ i, i < n → (f i).lies B w) : TRowF B w (some ⟨g, 0, none⟩) ((List.range n).map f) := by
  have hlen : ((List.range n).map f).length = n := by simp
  refine ⟨?_, ?_, fun x hx => ?_⟩
  · rcases h with h | ⟨b, off, ha, _, hlt, hc⟩
    · exact .inl (by rw [h]; rfl)
    · refine .inr ⟨b, off, ha, hlt, fun j u hu => ?_⟩
      have hj : j < n * 4 := by
        have := (List.getElem?_eq_some_iff.1 hu).1
        rwa [flat4_len, hlen] at this
      have hi : j / 4 < n := by omega
      have hc4 : j % 4 < 4 := by omega
      have e : j = j / 4 * 4 + j % 4 := by omega
      rw [e, flat4_get _ (j / 4) (j % 4) (by rw [hlen]; exact hi) hc4] at hu
      have hg : ((List.range n).map f)[j / 4]'(by rw [hlen]; exact hi) = f (j / 4) := by simp
      rw [hg] at hu
      have := hc (j / 4) hi (j % 4) u hu
      rw [e, ← Nat.add_assoc]
      exact this
  · rcases h with h | ⟨b, off, ha, hB, _⟩
    · exact .inl (by rw [h]; rfl)
    · exact .inr fun p hp => by rw [ha] at hp; cases hp; exact hB
  · obtain ⟨i, hi, rfl⟩ := List.mem_map.1 hx
    exact hl i (List.mem_range.1 hi)

theorem run_make_toTermS_of (n : Nat) (hn : n ≤ 1048576) (w : World) :
    (Instr.makeSlice 40 (.int .i64 (n : Int)) (.int .i64 (n : Int))).run Try.prog w = .ok (.slice (some ⟨w.heap.size, 0, none⟩) n n) (w.alloc (.cells (madeCells #[.int .i64 0, .slice none 0 0, .int .i64 0, .int .i64 0] (n * 4)) 36)) := by
  have hi0 : (Try.prog.info? 36).map (fun i => (i.zero, i.size, i.bytes)) = some (some (.agg #[.int .i64 0, .slice none 0 0, .int .i64 0, .int .i64 0]), 4, 48) := by kernel_rfl
  obtain ⟨i, hi, hzz⟩ := Option.map_eq_some_iff.1 hi0
  simp only [Prod.mk.injEq] at hzz
  obtain ⟨hz, hs, hb⟩ := hzz
  have hr := run_make (P := Try.prog) w 40 36 i _ Try.underlying40 hi hz .i64 .i64 n n (by omega) (Int.le_refl _) (by rw [hb]; omega) (by omega)
  simp only [Int.toNat_natCast, hs, Value.cells] at hr
  exact hr
def CptoTermS_of (w : World) (n : Nat) (tm : Nat → TB) (e : Ending) (w' : World) : Prop := ∃ (g : Nat) (k' : Nat → TB), e = .returned (.slice (some ⟨g, 0, none⟩) n n) ∧ KRow w.heap.size w' 4 (some ⟨g, 0, none⟩) n (fun i => enc4 (k' i).t) ∧ (∀ i, i < n → (k' i).lies w.heap.size w') ∧ (∀ i, i < n → (tm i).same (k' i)) ∧ Below w.heap.size w w'
set_option maxHeartbeats 4000000 in
theorem toTermS_of (a : Option Addr) (cap n : Nat) (tm : Nat → TB) (w : World) (hn : n ≤ 1048576) (hR : KRow 0 w 4 a n (fun i => enc4 (tm i).t))
    (IH : ∀ i, i < n → ∀ (W : World), Below w.heap.size w W → Calls Try.prog 53 #[.agg #[.int .i64 (tm i).t.k, .slice (tm i).t.a (tm i).t.len (tm i).t.cap, .int .i64 (tm i).t.n, .int .i64 (tm i).t.s]] W fun e w' => ∃ y : TB, e = .returned (.agg #[.int .i64 y.t.k, .slice y.t.a y.t.len y.t.cap, .int .i64 y.t.n, .int .i64 y.t.s]) ∧ y.lies W.heap.size w' ∧ (tm i).same y ∧ Below W.heap.size W w') :
    Calls Try.prog 25 #[.slice a n cap] w (CptoTermS_of w n tm) := by
  have hmk := run_make_toTermS_of n hn
  by_cases hn0 : n = 0
  · subst hn0
    have hmk0 : ∀ w, (Instr.makeSlice 40 (.int .i64 0) (.int .i64 0)).run Try.prog w = .ok (.slice (some ⟨w.heap.size, 0, none⟩) 0 0) (w.alloc (.cells (madeCells #[.int .i64 0, .slice none 0 0, .int .i64 0, .int .i64 0] 0) 36)) := fun w => by simpa using hmk w
    clear hmk hR IH hn
    go_enter Try.func25, Try.ntmps25
    go_wp2
    refine wp_loop_rounds 1 ?_
    rw [rounds_succ]
    go_wp2
    go_ret
    exact ⟨w.heap.size, tm, rfl, .inl rfl, fun i hi => absurd hi (Nat.not_lt_zero _), fun i hi => absurd hi (Nat.not_lt_zero _), bl_a _⟩
  obtain ⟨b, off, rfl, _, hlt, hc⟩ := hR.resolve_left hn0
  have HC : Hid (∀ i, i < n → ∀ c u, (enc4 (tm i).t)[c]? = some u → w.cell? ⟨b, off + i * 4 + c, none⟩ = some u) := hc
  have HI : Hid (∀ i, i < n → ∀ (W : World), Below w.heap.size w W → Calls Try.prog 53 #[.agg #[.int .i64 (tm i).t.k, .slice (tm i).t.a (tm i).t.len (tm i).t.cap, .int .i64 (tm i).t.n, .int .i64 (tm i).t.s]] W fun e w' => ∃ y : TB, e = .returned (.agg #[.int .i64 y.t.k, .slice y.t.a y.t.len y.t.cap, .int .i64 y.t.n, .int .i64 y.t.s]) ∧ y.lies W.heap.size w' ∧ (tm i).same y ∧ Below W.heap.size W w') := IH
  have HTH : Hid ((w.alloc (.cells (madeCells #[.int .i64 0, .slice none 0 0, .int .i64 0, .int .i64 0] (n * 4)) 36)).there w.heap.size 0 (n * 4)) := fun j hj => by
    have hs := size_madeCells #[.int .i64 0, .slice none 0 0, .int .i64 0, .int .i64 0] (n * 4)
    have h := OB.new w (madeCells #[.int .i64 0, .slice none 0 0, .int .i64 0, .int .i64 0] (n * 4)) 36
    have h2 := h.2 (0 + j) _ (List.getElem?_eq_getElem (by rw [Array.length_toList, hs]; omega))
    exact ⟨by rw [h2.1]; rfl, h2.2⟩
  clear hR hc IH
  go_enter Try.func25, Try.ntmps25
  go_wp2
  go_loopw [4] (fun i wr => ∃ (k : Nat) (f : Nat → TB), k ≤ n ∧ i = .int .i64 k ∧ Hid (wr.there w.heap.size 0 (n * 4)) ∧ Hid (∀ j, j < k → wr.rangeAt w.heap.size (j * 4) (enc4 (f j).t)) ∧ Hid (∀ j, j < k → (f j).lies (w.heap.size + 1) wr) ∧ Hid (∀ j, j < k → (tm j).same (f j)) ∧ Hid (Below w.heap.size w wr) ∧ Hid (w.heap.size < wr.heap.size))
    (fun i _ => n - (intOf i).toNat)
  case atStart => exact ⟨0, tm, Nat.zero_le _, rfl, HTH, fun j hj => absurd hj (Nat.not_lt_zero _), fun j hj => absurd hj (Nat.not_lt_zero _), fun j hj => absurd hj (Nat.not_lt_zero _), bl_a _, (show w.heap.size < _ by simp)⟩
  case round =>
    obtain ⟨k, f, hk, rfl, HX, HR, HL, HS, HB, HZ⟩ := hrel
    clear hmk HTH
    by_cases hlk : k < n
    · have hlkz : (k : Int) < (n : Int) := by omega
      have hcx : ∀ c u, (enc4 (tm k).t)[c]? = some u → wr.cell? ⟨b, off + k * 4 + c, none⟩ = some u := fun c u hu => (HB.out.cell (p := ⟨b, off + k * 4 + c, none⟩) hlt).trans (HC.out k hlk c u hu)
      have Z := HI.out k hlk
      go_wp2_with (refine wpList_load_mid rfl 25 _ rfl b (off + k * 4) rfl [.int .i64 (tm k).t.k, .slice (tm k).t.a (tm k).t.len (tm k).t.cap, .int .i64 (tm k).t.n, .int .i64 (tm k).t.s] _ hcx Try.underlying25 rfl (by kernel_rfl) ?_; try simp only [Act.put, List.setIfInBounds_toArray, List.set_cons_zero, List.set_cons_succ])
      refine (Z _ HB.out).mono ?_
      rintro e w2 ⟨y, rfl, hy, he, hb2⟩
      have hkz : k * 4 + 4 ≤ n * 4 := by rw [← Nat.succ_mul]; exact Nat.mul_le_mul_right _ hlk
      have hth : w2.there w.heap.size (k * 4) 4 := fun j hj => by
        have h := HX.out (k * 4 + j) (by omega)
        rw [Nat.zero_add] at h
        exact ⟨by rw [hb2.cell (p := ⟨w.heap.size, k * 4 + j, none⟩) HZ.out]; exact h.1, (hb2.frozen (p := ⟨w.heap.size, k * 4 + j, none⟩) HZ.out).trans h.2⟩
      have HN1 : Hid ((w2.setCells w.heap.size (k * 4) [.int .i64 y.t.k, .slice y.t.a y.t.len y.t.cap, .int .i64 y.t.n, .int .i64 y.t.s]).there w.heap.size 0 (n * 4)) := World.there_setCells (fun j hj => ⟨by rw [hb2.cell (p := ⟨w.heap.size, 0 + j, none⟩) HZ.out]; exact (HX.out j hj).1, (hb2.frozen (p := ⟨w.heap.size, 0 + j, none⟩) HZ.out).trans (HX.out j hj).2⟩) _ _ _
      have hlen : ([.int .i64 y.t.k, .slice y.t.a y.t.len y.t.cap, .int .i64 y.t.n, .int .i64 y.t.s] : List Value).length = 4 := rfl
      have HN2 : Hid (∀ j, j < k + 1 → (w2.setCells w.heap.size (k * 4) [.int .i64 y.t.k, .slice y.t.a y.t.len y.t.cap, .int .i64 y.t.n, .int .i64 y.t.s]).rangeAt w.heap.size (j * 4) (enc4 (if j = k then y else f j).t)) := fun j hj => by
        by_cases e : j = k
        · subst e
          rw [if_pos rfl]
          exact World.rangeAt_setCells_same w2 w.heap.size (j * 4) [.int .i64 y.t.k, .slice y.t.a y.t.len y.t.cap, .int .i64 y.t.n, .int .i64 y.t.s] (by rw [hlen]; exact hth)
        · rw [if_neg e]
          have hjk : j * 4 + 4 ≤ k * 4 := by rw [← Nat.succ_mul]; exact Nat.mul_le_mul_right _ (by omega)
          refine World.rangeAt_setCells_apart (fun c u hu => (hb2.cell (p := ⟨w.heap.size, j * 4 + c, none⟩) HZ.out).trans (HR.out j (by omega) c u hu)) _ _ _ (.inr (.inl ?_))
          show j * 4 + 4 ≤ _
          exact hjk
      have hu3 : Upper (w.heap.size + 1) w2 (w2.setCells w.heap.size (k * 4) [.int .i64 y.t.k, .slice y.t.a y.t.len y.t.cap, .int .i64 y.t.n, .int .i64 y.t.s]) := upper_sets _ _ _ _
      have HN3 : Hid (∀ j, j < k + 1 → (if j = k then y else f j).lies (w.heap.size + 1) (w2.setCells w.heap.size (k * 4) [.int .i64 y.t.k, .slice y.t.a y.t.len y.t.cap, .int .i64 y.t.n, .int .i64 y.t.s])) := fun j hj => by
        by_cases e : j = k
        · rw [if_pos e]
          exact ((hy).base HZ.out).upper hu3
        · rw [if_neg e]
          exact ((HL.out j (by omega)).upper (Upper.of_below hb2)).upper hu3
      have HN4 : Hid (∀ j, j < k + 1 → (tm j).same (if j = k then y else f j)) := fun j hj => by
        by_cases e : j = k
        · rw [if_pos e, e]
          exact he
        · rw [if_neg e]
          exact HS.out j (by omega)
      have HN5 : Hid (Below w.heap.size w (w2.setCells w.heap.size (k * 4) [.int .i64 y.t.k, .slice y.t.a y.t.len y.t.cap, .int .i64 y.t.n, .int .i64 y.t.s])) := below_sets _ (Nat.le_refl _) _ _ _ (bl_trans HB.out hb2)
      have HN6 : Hid (w.heap.size < (w2.setCells w.heap.size (k * 4) [.int .i64 y.t.k, .slice y.t.a y.t.len y.t.cap, .int .i64 y.t.n, .int .i64 y.t.s]).heap.size) := Nat.lt_of_lt_of_le (Nat.lt_of_lt_of_le HZ.out hb2.size) hu3.size
      have one1 : (#[.int .i64 y.t.k, .slice y.t.a y.t.len y.t.cap, .int .i64 y.t.n, .int .i64 y.t.s] : Array Value).all (·.oneCell') = true := all_oneCell_toArray (cs := [.int .i64 y.t.k, .slice y.t.a y.t.len y.t.cap, .int .i64 y.t.n, .int .i64 y.t.s]) (by simp [Value.oneCell'])
      clear Z hcx hy he hb2 hu3 hlen hkz HX HR HL HS HB HZ
      go_upto_region 4 with (refine wpList_store_mid rfl 36 _ _ rfl w.heap.size (k * 4) #[.int .i64 y.t.k, .slice y.t.a y.t.len y.t.cap, .int .i64 y.t.n, .int .i64 y.t.s] rfl rfl hth (by kernel_rfl) one1 ?_; try simp only [Act.put])
      clear hth one1
      go_wp2_with fail
      go_roundw
      case rel => exact ⟨k + 1, fun j => if j = k then y else f j, by omega, by go_num, HN1, HN2, HN3, HN4, HN5, HN6⟩
      case measure => simp [intOf]; omega
    · obtain rfl : k = n := by omega
      have hlkz : ¬ (k : Int) < (k : Int) := by omega
      go_wp2
      go_ret
      exact ⟨w.heap.size, f, rfl, .inr ⟨w.heap.size, 0, rfl, Nat.le_refl _, HZ.out, fun i hi c u hu => by rw [Nat.zero_add]; exact HR.out i hi c u hu⟩, fun i hi => (HL.out i hi).base (Nat.le_succ _), HS.out, HB.out⟩

theorem toTermS_to (a : Option Addr) (cap : Nat) (tb : List TB) (w : World) (hn : tb.length ≤ 1048576) (h : TRowF 0 w a tb) :
    Calls Try.prog 25 #[.slice a tb.length cap] w fun e w' => ∃ (a' : Option Addr) (c' : Nat) (l' : List TB), e = .returned (.slice a' l'.length c') ∧ TRowF w.heap.size w' a' l' ∧ tb.map TB.td = l'.map TB.td ∧ Below w.heap.size w w' := by
  refine (toTermS_of a cap tb.length (tbG tb) w hn (trow_krow h) fun i hi W hW => ?_).mono ?_
  · have hm := (tbG_at hi)
    have h2 := h.2.2 _ hm.2
    rw [← hm.1] at h2
    refine (toTerm_to (tbG tb i) W (h2.1.upper (Upper.of_below hW)) h2.2).mono ?_
    rintro e w' ⟨y, rfl, h3, h4, h5, h6⟩
    exact ⟨y, rfl, ⟨h3, h4⟩, h5, h6⟩
  · rintro e w' ⟨g, f, rfl, h1, h2, h3, h4⟩
    refine ⟨some ⟨g, 0, none⟩, tb.length, (List.range tb.length).map f, by simp, krow_trow h1 h2, ?_, h4⟩
    apply List.ext_getElem
    · simp
    · intro i hi hi'
      have hi1 : i < tb.length := by simpa using hi
      have := h3 i hi1
      rw [(tbG_at hi1).1] at this
      have h5 : tb[i].td = (f i).td := this
      simpa using h5

theorem run_make_toAlgS_of (n : Nat) (hn : n ≤ 1048576) (w : World) :
    (Instr.makeSlice 41 (.int .i64 (n : Int)) (.int .i64 (n : Int))).run Try.prog w = .ok (.slice (some ⟨w.heap.size, 0, none⟩) n n) (w.alloc (.cells (madeCells #[.int .i64 0, .slice none 0 0, .int .i64 0, .int .i64 0, .slice none 0 0, .int .i64 0, .slice none 0 0, .int .i64 0, .int .i64 0, .slice none 0 0, .slice none 0 0, .slice none 0 0, .slice none 0 0] (n * 13)) 43)) := by
  have hi0 : (Try.prog.info? 43).map (fun i => (i.zero, i.size, i.bytes)) = some (some (.agg #[.int .i64 0, .slice none 0 0, .int .i64 0, .int .i64 0, .slice none 0 0, .int .i64 0, .slice none 0 0, .int .i64 0, .int .i64 0, .slice none 0 0, .slice none 0 0, .slice none 0 0, .slice none 0 0]), 13, 216) := by kernel_rfl
  obtain ⟨i, hi, hzz⟩ := Option.map_eq_some_iff.1 hi0
  simp only [Prod.mk.injEq] at hzz
  obtain ⟨hz, hs, hb⟩ := hzz
  have hr := run_make (P := Try.prog) w 41 43 i _ Try.underlying41 hi hz .i64 .i64 n n (by omega) (Int.le_refl _) (by rw [hb]; omega) (by omega)
  simp only [Int.toNat_natCast, hs, Value.cells] at hr
  exact hr
def CptoAlgS_of (w : World) (n : Nat) (kid : Nat → AT) (e : Ending) (w' : World) : Prop := ∃ (g : Nat) (k' : Nat → AT), e = .returned (.slice (some ⟨g, 0, none⟩) n n) ∧ KRow w.heap.size w' 13 (some ⟨g, 0, none⟩) n (fun i => (k' i).d.cells) ∧ (∀ i, i < n → (k' i).lies w.heap.size w') ∧ (∀ i, i < n → (kid i).same (k' i)) ∧ Below w.heap.size w w'
set_option maxHeartbeats 4000000 in
theorem toAlgS_of (a : Option Addr) (cap n : Nat) (kid : Nat → AT) (w : World) (hn : n ≤ 1048576) (hR : KRow 0 w 13 a n (fun i => (kid i).d.cells))
    (IH : ∀ i, i < n → ∀ (W : World), Below w.heap.size w W → Calls Try.prog 7 #[.agg #[.int .i64 (kid i).d.k, .slice (kid i).d.pa (kid i).d.pn (kid i).d.pc, .int .i64 (kid i).d.e.d.k, .int .i64 (kid i).d.e.d.op, .slice (kid i).d.e.d.v.a (kid i).d.e.d.v.len (kid i).d.e.d.v.cap, .int .i64 (kid i).d.e.d.t.t.k, .slice (kid i).d.e.d.t.t.a (kid i).d.e.d.t.t.len (kid i).d.e.d.t.t.cap, .int .i64 (kid i).d.e.d.t.t.n, .int .i64 (kid i).d.e.d.t.t.s, .slice (kid i).d.e.d.ka (kid i).d.e.d.n (kid i).d.e.d.kc, .slice (kid i).d.v.a (kid i).d.v.len (kid i).d.v.cap, .slice (kid i).d.ta (kid i).d.tb.length (kid i).d.tc, .slice (kid i).d.ka (kid i).d.n (kid i).d.kc]] W fun e w' => ∃ y : AT, e = .returned (.agg #[.int .i64 y.d.k, .slice y.d.pa y.d.pn y.d.pc, .int .i64 y.d.e.d.k, .int .i64 y.d.e.d.op, .slice y.d.e.d.v.a y.d.e.d.v.len y.d.e.d.v.cap, .int .i64 y.d.e.d.t.t.k, .slice y.d.e.d.t.t.a y.d.e.d.t.t.len y.d.e.d.t.t.cap, .int .i64 y.d.e.d.t.t.n, .int .i64 y.d.e.d.t.t.s, .slice y.d.e.d.ka y.d.e.d.n y.d.e.d.kc, .slice y.d.v.a y.d.v.len y.d.v.cap, .slice y.d.ta y.d.tb.length y.d.tc, .slice y.d.ka y.d.n y.d.kc]) ∧ y.lies W.heap.size w' ∧ (kid i).same y ∧ Below W.heap.size W w') :
    Calls Try.prog 26 #[.slice a n cap] w (CptoAlgS_of w n kid) := by
  have hmk := run_make_toAlgS_of n hn
  by_cases hn0 : n = 0
  · subst hn0
    have hmk0 : ∀ w, (Instr.makeSlice 41 (.int .i64 0) (.int .i64 0)).run Try.prog w = .ok (.slice (some ⟨w.heap.size, 0, none⟩) 0 0) (w.alloc (.cells (madeCells #[.int .i64 0, .slice none 0 0, .int .i64 0, .int .i64 0, .slice none 0 0, .int .i64 0, .slice none 0 0, .int .i64 0, .int .i64 0, .slice none 0 0, .slice none 0 0, .slice none 0 0, .slice none 0 0] 0) 43)) := fun w => by simpa using hmk w
    clear hmk hR IH hn
    go_enter Try.func26, Try.ntmps26
    go_wp2
    refine wp_loop_rounds 1 ?_
    rw [rounds_succ]
    go_wp2
    go_ret
    exact ⟨w.heap.size, kid, rfl, .inl rfl, fun i hi => absurd hi (Nat.not_lt_zero _), fun i hi => absurd hi (Nat.not_lt_zero _), bl_a _⟩
  obtain ⟨b, off, rfl, _, hlt, hc⟩ := hR.resolve_left hn0
  have HC : Hid (∀ i, i < n → ∀ c u, ((kid i).d.cells)[c]? = some u → w.cell? ⟨b, off + i * 13 + c, none⟩ = some u) := hc
  have HI : Hid (∀ i, i < n → ∀ (W : World), Below w.heap.size w W → Calls Try.prog 7 #[.agg #[.int .i64 (kid i).d.k, .slice (kid i).d.pa (kid i).d.pn (kid i).d.pc, .int .i64 (kid i).d.e.d.k, .int .i64 (kid i).d.e.d.op, .slice (kid i).d.e.d.v.a (kid i).d.e.d.v.len (kid i).d.e.d.v.cap, .int .i64 (kid i).d.e.d.t.t.k, .slice (kid i).d.e.d.t.t.a (kid i).d.e.d.t.t.len (kid i).d.e.d.t.t.cap, .int .i64 (kid i).d.e.d.t.t.n, .int .i64 (kid i).d.e.d.t.t.s, .slice (kid i).d.e.d.ka (kid i).d.e.d.n (kid i).d.e.d.kc, .slice (kid i).d.v.a (kid i).d.v.len (kid i).d.v.cap, .slice (kid i).d.ta (kid i).d.tb.length (kid i).d.tc, .slice (kid i).d.ka (kid i).d.n (kid i).d.kc]] W fun e w' => ∃ y : AT, e = .returned (.agg #[.int .i64 y.d.k, .slice y.d.pa y.d.pn y.d.pc, .int .i64 y.d.e.d.k, .int .i64 y.d.e.d.op, .slice y.d.e.d.v.a y.d.e.d.v.len y.d.e.d.v.cap, .int .i64 y.d.e.d.t.t.k, .slice y.d.e.d.t.t.a y.d.e.d.t.t.len y.d.e.d.t.t.cap, .int .i64 y.d.e.d.t.t.n, .int .i64 y.d.e.d.t.t.s, .slice y.d.e.d.ka y.d.e.d.n y.d.e.d.kc, .slice y.d.v.a y.d.v.len y.d.v.cap, .slice y.d.ta y.d.tb.length y.d.tc, .slice y.d.ka y.d.n y.d.kc]) ∧ y.lies W.heap.size w' ∧ (kid i).same y ∧ Below W.heap.size W w') := IH
  have HTH : Hid ((w.alloc (.cells (madeCells #[.int .i64 0, .slice none 0 0, .int .i64 0, .int .i64 0, .slice none 0 0, .int .i64 0, .slice none 0 0, .int .i64 0, .int .i64 0, .slice none 0 0, .slice none 0 0, .slice none 0 0, .slice none 0 0] (n * 13)) 43)).there w.heap.size 0 (n * 13)) := fun j hj => by
    have hs := size_madeCells #[.int .i64 0, .slice none 0 0, .int .i64 0, .int .i64 0, .slice none 0 0, .int .i64 0, .slice none 0 0, .int .i64 0, .int .i64 0, .slice none 0 0, .slice none 0 0, .slice none 0 0, .slice none 0 0] (n * 13)
    have h := OB.new w (madeCells #[.int .i64 0, .slice none 0 0, .int .i64 0, .int .i64 0, .slice none 0 0, .int .i64 0, .slice none 0 0, .int .i64 0, .int .i64 0, .slice none 0 0, .slice none 0 0, .slice none 0 0, .slice none 0 0] (n * 13)) 43
    have h2 := h.2 (0 + j) _ (List.getElem?_eq_getElem (by rw [Array.length_toList, hs]; omega))
    exact ⟨by rw [h2.1]; rfl, h2.2⟩
  clear hR hc IH
  go_enter Try.func26, Try.ntmps26
  go_wp2
  go_loopw [4] (fun i wr => ∃ (k : Nat) (f : Nat → AT), k ≤ n ∧ i = .int .i64 k ∧ Hid (wr.there w.heap.size 0 (n * 13)) ∧ Hid (∀ j, j < k → wr.rangeAt w.heap.size (j * 13) ((f j).d.cells)) ∧ Hid (∀ j, j < k → (f j).lies (w.heap.size + 1) wr) ∧ Hid (∀ j, j < k → (kid j).same (f j)) ∧ Hid (Below w.heap.size w wr) ∧ Hid (w.heap.size < wr.heap.size))
    (fun i _ => n - (intOf i).toNat)
  case atStart => exact ⟨0, kid, Nat.zero_le _, rfl, HTH, fun j hj => absurd hj (Nat.not_lt_zero _), fun j hj => absurd hj (Nat.not_lt_zero _), fun j hj => absurd hj (Nat.not_lt_zero _), bl_a _, (show w.heap.size < _ by simp)⟩
  case round =>
    obtain ⟨k, f, hk, rfl, HX, HR, HL, HS, HB, HZ⟩ := hrel
    clear hmk HTH
    by_cases hlk : k < n
    · have hlkz : (k : Int) < (n : Int) := by omega
      have hcx : ∀ c u, ((kid k).d.cells)[c]? = some u → wr.cell? ⟨b, off + k * 13 + c, none⟩ = some u := fun c u hu => (HB.out.cell (p := ⟨b, off + k * 13 + c, none⟩) hlt).trans (HC.out k hlk c u hu)
      have Z := HI.out k hlk
      go_wp2_with (refine wpList_load_mid rfl 32 _ rfl b (off + k * 13) rfl [.int .i64 (kid k).d.k, .slice (kid k).d.pa (kid k).d.pn (kid k).d.pc, .int .i64 (kid k).d.e.d.k, .int .i64 (kid k).d.e.d.op, .slice (kid k).d.e.d.v.a (kid k).d.e.d.v.len (kid k).d.e.d.v.cap, .int .i64 (kid k).d.e.d.t.t.k, .slice (kid k).d.e.d.t.t.a (kid k).d.e.d.t.t.len (kid k).d.e.d.t.t.cap, .int .i64 (kid k).d.e.d.t.t.n, .int .i64 (kid k).d.e.d.t.t.s, .slice (kid k).d.e.d.ka (kid k).d.e.d.n (kid k).d.e.d.kc, .slice (kid k).d.v.a (kid k).d.v.len (kid k).d.v.cap, .slice (kid k).d.ta (kid k).d.tb.length (kid k).d.tc, .slice (kid k).d.ka (kid k).d.n (kid k).d.kc] _ hcx Try.underlying32 rfl (by kernel_rfl) ?_; try simp only [Act.put, List.setIfInBounds_toArray, List.set_cons_zero, List.set_cons_succ])
      refine (Z _ HB.out).mono ?_
      rintro e w2 ⟨y, rfl, hy, he, hb2⟩
      have hkz : k * 13 + 13 ≤ n * 13 := by rw [← Nat.succ_mul]; exact Nat.mul_le_mul_right _ hlk
      have hth : w2.there w.heap.size (k * 13) 13 := fun j hj => by
        have h := HX.out (k * 13 + j) (by omega)
        rw [Nat.zero_add] at h
        exact ⟨by rw [hb2.cell (p := ⟨w.heap.size, k * 13 + j, none⟩) HZ.out]; exact h.1, (hb2.frozen (p := ⟨w.heap.size, k * 13 + j, none⟩) HZ.out).trans h.2⟩
      have HN1 : Hid ((w2.setCells w.heap.size (k * 13) [.int .i64 y.d.k, .slice y.d.pa y.d.pn y.d.pc, .int .i64 y.d.e.d.k, .int .i64 y.d.e.d.op, .slice y.d.e.d.v.a y.d.e.d.v.len y.d.e.d.v.cap, .int .i64 y.d.e.d.t.t.k, .slice y.d.e.d.t.t.a y.d.e.d.t.t.len y.d.e.d.t.t.cap, .int .i64 y.d.e.d.t.t.n, .int .i64 y.d.e.d.t.t.s, .slice y.d.e.d.ka y.d.e.d.n y.d.e.d.kc, .slice y.d.v.a y.d.v.len y.d.v.cap, .slice y.d.ta y.d.tb.length y.d.tc, .slice y.d.ka y.d.n y.d.kc]).there w.heap.size 0 (n * 13)) := World.there_setCells (fun j hj => ⟨by rw [hb2.cell (p := ⟨w.heap.size, 0 + j, none⟩) HZ.out]; exact (HX.out j hj).1, (hb2.frozen (p := ⟨w.heap.size, 0 + j, none⟩) HZ.out).trans (HX.out j hj).2⟩) _ _ _
      have hlen : ([.int .i64 y.d.k, .slice y.d.pa y.d.pn y.d.pc, .int .i64 y.d.e.d.k, .int .i64 y.d.e.d.op, .slice y.d.e.d.v.a y.d.e.d.v.len y.d.e.d.v.cap, .int .i64 y.d.e.d.t.t.k, .slice y.d.e.d.t.t.a y.d.e.d.t.t.len y.d.e.d.t.t.cap, .int .i64 y.d.e.d.t.t.n, .int .i64 y.d.e.d.t.t.s, .slice y.d.e.d.ka y.d.e.d.n y.d.e.d.kc, .slice y.d.v.a y.d.v.len y.d.v.cap, .slice y.d.ta y.d.tb.length y.d.tc, .slice y.d.ka y.d.n y.d.kc] : List Value).length = 13 := rfl
      have HN2 : Hid (∀ j, j < k + 1 → (w2.setCells w.heap.size (k * 13) [.int .i64 y.d.k, .slice y.d.pa y.d.pn y.d.pc, .int .i64 y.d.e.d.k, .int .i64 y.d.e.d.op, .slice y.d.e.d.v.a y.d.e.d.v.len y.d.e.d.v.cap, .int .i64 y.d.e.d.t.t.k, .slice y.d.e.d.t.t.a y.d.e.d.t.t.len y.d.e.d.t.t.cap, .int .i64 y.d.e.d.t.t.n, .int .i64 y.d.e.d.t.t.s, .slice y.d.e.d.ka y.d.e.d.n y.d.e.d.kc, .slice y.d.v.a y.d.v.len y.d.v.cap, .slice y.d.ta y.d.tb.length y.d.tc, .slice y.d.ka y.d.n y.d.kc]).rangeAt w.heap.size (j * 13) ((if j = k then y else f j).d.cells)) := fun j hj => by
        by_cases e : j = k
        · subst e
          rw [if_pos rfl]
          exact World.rangeAt_setCells_same w2 w.heap.size (j * 13) [.int .i64 y.d.k, .slice y.d.pa y.d.pn y.d.pc, .int .i64 y.d.e.d.k, .int .i64 y.d.e.d.op, .slice y.d.e.d.v.a y.d.e.d.v.len y.d.e.d.v.cap, .int .i64 y.d.e.d.t.t.k, .slice y.d.e.d.t.t.a y.d.e.d.t.t.len y.d.e.d.t.t.cap, .int .i64 y.d.e.d.t.t.n, .int .i64 y.d.e.d.t.t.s, .slice y.d.e.d.ka y.d.e.d.n y.d.e.d.kc, .slice y.d.v.a y.d.v.len y.d.v.cap, .slice y.d.ta y.d.tb.length y.d.tc, .slice y.d.ka y.d.n y.d.kc] (by rw [hlen]; exact hth)
        · rw [if_neg e]
          have hjk : j * 13 + 13 ≤ k * 13 := by rw [← Nat.succ_mul]; exact Nat.mul_le_mul_right _ (by omega)
          refine World.rangeAt_setCells_apart (fun c u hu => (hb2.cell (p := ⟨w.heap.size, j * 13 + c, none⟩) HZ.out).trans (HR.out j (by omega) c u hu)) _ _ _ (.inr (.inl ?_))
          show j * 13 + 13 ≤ _
          exact hjk
      have hu3 : Upper (w.heap.size + 1) w2 (w2.setCells w.heap.size (k * 13) [.int .i64 y.d.k, .slice y.d.pa y.d.pn y.d.pc, .int .i64 y.d.e.d.k, .int .i64 y.d.e.d.op, .slice y.d.e.d.v.a y.d.e.d.v.len y.d.e.d.v.cap, .int .i64 y.d.e.d.t.t.k, .slice y.d.e.d.t.t.a y.d.e.d.t.t.len y.d.e.d.t.t.cap, .int .i64 y.d.e.d.t.t.n, .int .i64 y.d.e.d.t.t.s, .slice y.d.e.d.ka y.d.e.d.n y.d.e.d.kc, .slice y.d.v.a y.d.v.len y.d.v.cap, .slice y.d.ta y.d.tb.length y.d.tc, .slice y.d.ka y.d.n y.d.kc]) := upper_sets _ _ _ _
      have HN3 : Hid (∀ j, j < k + 1 → (if j = k then y else f j).lies (w.heap.size + 1) (w2.setCells w.heap.size (k * 13) [.int .i64 y.d.k, .slice y.d.pa y.d.pn y.d.pc, .int .i64 y.d.e.d.k, .int .i64 y.d.e.d.op, .slice y.d.e.d.v.a y.d.e.d.v.len y.d.e.d.v.cap, .int .i64 y.d.e.d.t.t.k, .slice y.d.e.d.t.t.a y.d.e.d.t.t.len y.d.e.d.t.t.cap, .int .i64 y.d.e.d.t.t.n, .int .i64 y.d.e.d.t.t.s, .slice y.d.e.d.ka y.d.e.d.n y.d.e.d.kc, .slice y.d.v.a y.d.v.len y.d.v.cap, .slice y.d.ta y.d.tb.length y.d.tc, .slice y.d.ka y.d.n y.d.kc])) := fun j hj => by
        by_cases e : j = k
        · rw [if_pos e]
          exact AT.lies.upper hu3 (AT.lies.base HZ.out (hy))
        · rw [if_neg e]
          exact AT.lies.upper hu3 (AT.lies.upper (Upper.of_below hb2) (HL.out j (by omega)))
      have HN4 : Hid (∀ j, j < k + 1 → (kid j).same (if j = k then y else f j)) := fun j hj => by
        by_cases e : j = k
        · rw [if_pos e, e]
          exact he
        · rw [if_neg e]
          exact HS.out j (by omega)
      have HN5 : Hid (Below w.heap.size w (w2.setCells w.heap.size (k * 13) [.int .i64 y.d.k, .slice y.d.pa y.d.pn y.d.pc, .int .i64 y.d.e.d.k, .int .i64 y.d.e.d.op, .slice y.d.e.d.v.a y.d.e.d.v.len y.d.e.d.v.cap, .int .i64 y.d.e.d.t.t.k, .slice y.d.e.d.t.t.a y.d.e.d.t.t.len y.d.e.d.t.t.cap, .int .i64 y.d.e.d.t.t.n, .int .i64 y.d.e.d.t.t.s, .slice y.d.e.d.ka y.d.e.d.n y.d.e.d.kc, .slice y.d.v.a y.d.v.len y.d.v.cap, .slice y.d.ta y.d.tb.length y.d.tc, .slice y.d.ka y.d.n y.d.kc])) := below_sets _ (Nat.le_refl _) _ _ _ (bl_trans HB.out hb2)
      have HN6 : Hid (w.heap.size < (w2.setCells w.heap.size (k * 13) [.int .i64 y.d.k, .slice y.d.pa y.d.pn y.d.pc, .int .i64 y.d.e.d.k, .int .i64 y.d.e.d.op, .slice y.d.e.d.v.a y.d.e.d.v.len y.d.e.d.v.cap, .int .i64 y.d.e.d.t.t.k, .slice y.d.e.d.t.t.a y.d.e.d.t.t.len y.d.e.d.t.t.cap, .int .i64 y.d.e.d.t.t.n, .int .i64 y.d.e.d.t.t.s, .slice y.d.e.d.ka y.d.e.d.n y.d.e.d.kc, .slice y.d.v.a y.d.v.len y.d.v.cap, .slice y.d.ta y.d.tb.length y.d.tc, .slice y.d.ka y.d.n y.d.kc]).heap.size) := Nat.lt_of_lt_of_le (Nat.lt_of_lt_of_le HZ.out hb2.size) hu3.size
      have one1 : (#[.int .i64 y.d.k, .slice y.d.pa y.d.pn y.d.pc, .int .i64 y.d.e.d.k, .int .i64 y.d.e.d.op, .slice y.d.e.d.v.a y.d.e.d.v.len y.d.e.d.v.cap, .int .i64 y.d.e.d.t.t.k, .slice y.d.e.d.t.t.a y.d.e.d.t.t.len y.d.e.d.t.t.cap, .int .i64 y.d.e.d.t.t.n, .int .i64 y.d.e.d.t.t.s, .slice y.d.e.d.ka y.d.e.d.n y.d.e.d.kc, .slice y.d.v.a y.d.v.len y.d.v.cap, .slice y.d.ta y.d.tb.length y.d.tc, .slice y.d.ka y.d.n y.d.kc] : Array Value).all (·.oneCell') = true := all_oneCell_toArray (cs := [.int .i64 y.d.k, .slice y.d.pa y.d.pn y.d.pc, .int .i64 y.d.e.d.k, .int .i64 y.d.e.d.op, .slice y.d.e.d.v.a y.d.e.d.v.len y.d.e.d.v.cap, .int .i64 y.d.e.d.t.t.k, .slice y.d.e.d.t.t.a y.d.e.d.t.t.len y.d.e.d.t.t.cap, .int .i64 y.d.e.d.t.t.n, .int .i64 y.d.e.d.t.t.s, .slice y.d.e.d.ka y.d.e.d.n y.d.e.d.kc, .slice y.d.v.a y.d.v.len y.d.v.cap, .slice y.d.ta y.d.tb.length y.d.tc, .slice y.d.ka y.d.n y.d.kc]) (by simp [Value.oneCell'])
      clear Z hcx hy he hb2 hu3 hlen hkz HX HR HL HS HB HZ
      go_upto_region 4 with (refine wpList_store_mid rfl 43 _ _ rfl w.heap.size (k * 13) #[.int .i64 y.d.k, .slice y.d.pa y.d.pn y.d.pc, .int .i64 y.d.e.d.k, .int .i64 y.d.e.d.op, .slice y.d.e.d.v.a y.d.e.d.v.len y.d.e.d.v.cap, .int .i64 y.d.e.d.t.t.k, .slice y.d.e.d.t.t.a y.d.e.d.t.t.len y.d.e.d.t.t.cap, .int .i64 y.d.e.d.t.t.n, .int .i64 y.d.e.d.t.t.s, .slice y.d.e.d.ka y.d.e.d.n y.d.e.d.kc, .slice y.d.v.a y.d.v.len y.d.v.cap, .slice y.d.ta y.d.tb.length y.d.tc, .slice y.d.ka y.d.n y.d.kc] rfl rfl hth (by kernel_rfl) one1 ?_; try simp only [Act.put])
      clear hth one1
      go_wp2_with fail
      go_roundw
      case rel => exact ⟨k + 1, fun j => if j = k then y else f j, by omega, by go_num, HN1, HN2, HN3, HN4, HN5, HN6⟩
      case measure => simp [intOf]; omega
    · obtain rfl : k = n := by omega
      have hlkz : ¬ (k : Int) < (k : Int) := by omega
      go_wp2
      go_ret
      exact ⟨w.heap.size, f, rfl, .inr ⟨w.heap.size, 0, rfl, Nat.le_refl _, HZ.out, fun i hi c u hu => by rw [Nat.zero_add]; exact HR.out i hi c u hu⟩, fun i hi => AT.lies.base (Nat.le_succ _) (HL.out i hi), HS.out, HB.out⟩

set_option maxHeartbeats 4000000 in
theorem toAlg_to (e : AT) : ∀ (w : World), e.lies 0 w → Calls Try.prog 7 #[.agg #[.int .i64 e.d.k, .slice e.d.pa e.d.pn e.d.pc, .int .i64 e.d.e.d.k, .int .i64 e.d.e.d.op, .slice e.d.e.d.v.a e.d.e.d.v.len e.d.e.d.v.cap, .int .i64 e.d.e.d.t.t.k, .slice e.d.e.d.t.t.a e.d.e.d.t.t.len e.d.e.d.t.t.cap, .int .i64 e.d.e.d.t.t.n, .int .i64 e.d.e.d.t.t.s, .slice e.d.e.d.ka e.d.e.d.n e.d.e.d.kc, .slice e.d.v.a e.d.v.len e.d.v.cap, .slice e.d.ta e.d.tb.length e.d.tc, .slice e.d.ka e.d.n e.d.kc]] w fun r w' => ∃ y : AT, r = .returned (.agg #[.int .i64 y.d.k, .slice y.d.pa y.d.pn y.d.pc, .int .i64 y.d.e.d.k, .int .i64 y.d.e.d.op, .slice y.d.e.d.v.a y.d.e.d.v.len y.d.e.d.v.cap, .int .i64 y.d.e.d.t.t.k, .slice y.d.e.d.t.t.a y.d.e.d.t.t.len y.d.e.d.t.t.cap, .int .i64 y.d.e.d.t.t.n, .int .i64 y.d.e.d.t.t.s, .slice y.d.e.d.ka y.d.e.d.n y.d.e.d.kc, .slice y.d.v.a y.d.v.len y.d.v.cap, .slice y.d.ta y.d.tb.length y.d.tc, .slice y.d.ka y.d.n y.d.kc]) ∧ y.lies w.heap.size w' ∧ e.same y ∧ Below w.heap.size w w' := by
  induction e with
  | nil => exact fun _ h => False.elim h
  | mk d kid ih =>
    intro w h
    show Calls Try.prog 7 #[.agg #[.int .i64 d.k, .slice d.pa d.pn d.pc, .int .i64 d.e.d.k, .int .i64 d.e.d.op, .slice d.e.d.v.a d.e.d.v.len d.e.d.v.cap, .int .i64 d.e.d.t.t.k, .slice d.e.d.t.t.a d.e.d.t.t.len d.e.d.t.t.cap, .int .i64 d.e.d.t.t.n, .int .i64 d.e.d.t.t.s, .slice d.e.d.ka d.e.d.n d.e.d.kc, .slice d.v.a d.v.len d.v.cap, .slice d.ta d.tb.length d.tc, .slice d.ka d.n d.kc]] w fun r w' => ∃ y : AT, r = .returned (.agg #[.int .i64 y.d.k, .slice y.d.pa y.d.pn y.d.pc, .int .i64 y.d.e.d.k, .int .i64 y.d.e.d.op, .slice y.d.e.d.v.a y.d.e.d.v.len y.d.e.d.v.cap, .int .i64 y.d.e.d.t.t.k, .slice y.d.e.d.t.t.a y.d.e.d.t.t.len y.d.e.d.t.t.cap, .int .i64 y.d.e.d.t.t.n, .int .i64 y.d.e.d.t.t.s, .slice y.d.e.d.ka y.d.e.d.n y.d.e.d.kc, .slice y.d.v.a y.d.v.len y.d.v.cap, .slice y.d.ta y.d.tb.length y.d.tc, .slice y.d.ka y.d.n y.d.kc]) ∧ y.lies w.heap.size w' ∧ (AT.mk d kid).same y ∧ Below w.heap.size w w'
    obtain ⟨hp, hpl, hpn, he, hv, ht, htn, hn, hR, hk⟩ := h
    have HZ1 : Hid (∀ (W : World), Below w.heap.size w W → Calls Try.prog 22 #[.slice d.pa d.pn d.pc] W fun e w' => ∃ (g : Nat) (k' : Nat → PB), e = .returned (.slice (some ⟨g, 0, none⟩) d.pn d.pn) ∧ KRow W.heap.size w' 15 (some ⟨g, 0, none⟩) d.pn (fun i => (k' i).cells) ∧ (∀ i, i < d.pn → (k' i).lies W.heap.size w') ∧ (∀ i, i < d.pn → (d.pat i).same (k' i)) ∧ Below W.heap.size W w') := fun W hb => toPatS_of d.pa d.pc d.pn d.pat W hpn (hp.upper (Upper.of_below hb)) fun i hi W' hW => toPat_to (d.pat i) W' ((hpl i hi).upper (Upper.of_below (bl_trans hb hW)))
    have HZ2 : Hid (∀ (W : World), Below w.heap.size w W → Calls Try.prog 23 #[.agg #[.int .i64 d.e.d.k, .int .i64 d.e.d.op, .slice d.e.d.v.a d.e.d.v.len d.e.d.v.cap, .int .i64 d.e.d.t.t.k, .slice d.e.d.t.t.a d.e.d.t.t.len d.e.d.t.t.cap, .int .i64 d.e.d.t.t.n, .int .i64 d.e.d.t.t.s, .slice d.e.d.ka d.e.d.n d.e.d.kc]] W fun e w' => ∃ y : ET, e = .returned (.agg #[.int .i64 y.d.k, .int .i64 y.d.op, .slice y.d.v.a y.d.v.len y.d.v.cap, .int .i64 y.d.t.t.k, .slice y.d.t.t.a y.d.t.t.len y.d.t.t.cap, .int .i64 y.d.t.t.n, .int .i64 y.d.t.t.s, .slice y.d.ka y.d.n y.d.kc]) ∧ y.lies W.heap.size w' ∧ d.e.same y ∧ Below W.heap.size W w') := fun W hb => toExpr_to d.e W (ET.lies.upper (Upper.of_below hb) he)
    have HZ3 : Hid (∀ (W : World), Below w.heap.size w W → Calls Try.prog 24 #[.slice d.v.a d.v.len d.v.cap] W fun e w' => ∃ y : SL, e = .returned (.slice y.a y.len y.cap) ∧ BsF W.heap.size w' y ∧ d.v.b = y.b ∧ Below W.heap.size W w') := fun W hb => toByteS_to d.v W (hv.upper (Upper.of_below hb))
    have HZ4 : Hid (∀ (W : World), Below w.heap.size w W → Calls Try.prog 25 #[.slice d.ta d.tb.length d.tc] W fun e w' => ∃ (a' : Option Addr) (c' : Nat) (l' : List TB), e = .returned (.slice a' l'.length c') ∧ TRowF W.heap.size w' a' l' ∧ d.tb.map TB.td = l'.map TB.td ∧ Below W.heap.size W w') := fun W hb => toTermS_to d.ta d.tc d.tb W htn (ht.upper (Upper.of_below hb))
    have HZ5 : Hid (∀ (W : World), Below w.heap.size w W → Calls Try.prog 26 #[.slice d.ka d.n d.kc] W fun e w' => ∃ (g : Nat) (k' : Nat → AT), e = .returned (.slice (some ⟨g, 0, none⟩) d.n d.n) ∧ KRow W.heap.size w' 13 (some ⟨g, 0, none⟩) d.n (fun i => (k' i).d.cells) ∧ (∀ i, i < d.n → (k' i).lies W.heap.size w') ∧ (∀ i, i < d.n → (kid i).same (k' i)) ∧ Below W.heap.size W w') := fun W hb => toAlgS_of d.ka d.kc d.n kid W hn (hR.upper (Upper.of_below hb)) fun i hi W' hW => ih i W' (AT.lies.upper (Upper.of_below (bl_trans hb hW)) (hk i hi))
    have HN : Hid (d.n ≤ 1048576) := hn
    have HPN : Hid (d.pn ≤ 1048576) := hpn
    have HTN : Hid (d.tb.length ≤ 1048576) := htn
    clear hp hpl hpn he hv ht htn hn hR hk ih
    go_enter Try.func7, Try.ntmps7
    have Z1 := HZ1.out
    go_wp2_with fail
    refine (Z1 _ (bl_alloc (bl_alloc (bl_a _) _) _)).mono ?_
    rintro e w1 ⟨g1, k1, rfl, hy1, hz1, he1, hb1⟩
    have HT : Hid (TS w w1 [.int .i64 d.k, .slice d.pa d.pn d.pc, .int .i64 d.e.d.k, .int .i64 d.e.d.op, .slice d.e.d.v.a d.e.d.v.len d.e.d.v.cap, .int .i64 d.e.d.t.t.k, .slice d.e.d.t.t.a d.e.d.t.t.len d.e.d.t.t.cap, .int .i64 d.e.d.t.t.n, .int .i64 d.e.d.t.t.s, .slice d.e.d.ka d.e.d.n d.e.d.kc, .slice d.v.a d.v.len d.v.cap, .slice d.ta d.tb.length d.tc, .slice d.ka d.n d.kc] [.int .i64 0, .slice none 0 0, .int .i64 0, .int .i64 0, .slice none 0 0, .int .i64 0, .slice none 0 0, .int .i64 0, .int .i64 0, .slice none 0 0, .slice none 0 0, .slice none 0 0, .slice none 0 0] [.int .i64 d.k, .slice none 0 0, .int .i64 0, .int .i64 0, .slice none 0 0, .int .i64 0, .slice none 0 0, .int .i64 0, .int .i64 0, .slice none 0 0, .slice none 0 0, .slice none 0 0, .slice none 0 0]) := (TS.new w #[.int .i64 d.k, .slice d.pa d.pn d.pc, .int .i64 d.e.d.k, .int .i64 d.e.d.op, .slice d.e.d.v.a d.e.d.v.len d.e.d.v.cap, .int .i64 d.e.d.t.t.k, .slice d.e.d.t.t.a d.e.d.t.t.len d.e.d.t.t.cap, .int .i64 d.e.d.t.t.n, .int .i64 d.e.d.t.t.s, .slice d.e.d.ka d.e.d.n d.e.d.kc, .slice d.v.a d.v.len d.v.cap, .slice d.ta d.tb.length d.tc, .slice d.ka d.n d.kc] #[.int .i64 0, .slice none 0 0, .int .i64 0, .int .i64 0, .slice none 0 0, .int .i64 0, .slice none 0 0, .int .i64 0, .int .i64 0, .slice none 0 0, .slice none 0 0, .slice none 0 0, .slice none 0 0] #[.int .i64 d.k, .slice none 0 0, .int .i64 0, .int .i64 0, .slice none 0 0, .int .i64 0, .slice none 0 0, .int .i64 0, .int .i64 0, .slice none 0 0, .slice none 0 0, .slice none 0 0, .slice none 0 0] 32 43 43).below hb1
    have e3 : (w.heap.size + 1 + 1 + 1) ≤ (((w.alloc (.cells #[.int .i64 d.k, .slice d.pa d.pn d.pc, .int .i64 d.e.d.k, .int .i64 d.e.d.op, .slice d.e.d.v.a d.e.d.v.len d.e.d.v.cap, .int .i64 d.e.d.t.t.k, .slice d.e.d.t.t.a d.e.d.t.t.len d.e.d.t.t.cap, .int .i64 d.e.d.t.t.n, .int .i64 d.e.d.t.t.s, .slice d.e.d.ka d.e.d.n d.e.d.kc, .slice d.v.a d.v.len d.v.cap, .slice d.ta d.tb.length d.tc, .slice d.ka d.n d.kc] 32)).alloc (.cells #[.int .i64 0, .slice none 0 0, .int .i64 0, .int .i64 0, .slice none 0 0, .int .i64 0, .slice none 0 0, .int .i64 0, .int .i64 0, .slice none 0 0, .slice none 0 0, .slice none 0 0, .slice none 0 0] 43)).alloc (.cells #[.int .i64 d.k, .slice none 0 0, .int .i64 0, .int .i64 0, .slice none 0 0, .int .i64 0, .slice none 0 0, .int .i64 0, .int .i64 0, .slice none 0 0, .slice none 0 0, .slice none 0 0, .slice none 0 0] 43)).heap.size := by simp
    have HM1 : Hid (KRow (w.heap.size + 1 + 1 + 1) (w1.setCell ⟨w.heap.size + 1 + 1, 1, none⟩ (.slice (some ⟨g1, 0, none⟩) d.pn d.pn)) 15 (some ⟨g1, 0, none⟩) d.pn (fun i => (k1 i).cells)) := (hy1.base e3).upper (upper_set (w := w1) (g := w.heap.size + 1 + 1) (i := 1) (.slice (some ⟨g1, 0, none⟩) d.pn d.pn))
    have HL1 : Hid (∀ i, i < d.pn → (k1 i).lies (w.heap.size + 1 + 1 + 1) (w1.setCell ⟨w.heap.size + 1 + 1, 1, none⟩ (.slice (some ⟨g1, 0, none⟩) d.pn d.pn))) := fun i hi => ((fun i hi => (hz1 i hi).base e3) i hi).upper (upper_set (w := w1) (g := w.heap.size + 1 + 1) (i := 1) (.slice (some ⟨g1, 0, none⟩) d.pn d.pn))
    have HE1 : Hid (∀ i, i < d.pn → (d.pat i).same (k1 i)) := he1
    have HTn : Hid (TS w (w1.setCell ⟨w.heap.size + 1 + 1, 1, none⟩ (.slice (some ⟨g1, 0, none⟩) d.pn d.pn)) [.int .i64 d.k, .slice d.pa d.pn d.pc, .int .i64 d.e.d.k, .int .i64 d.e.d.op, .slice d.e.d.v.a d.e.d.v.len d.e.d.v.cap, .int .i64 d.e.d.t.t.k, .slice d.e.d.t.t.a d.e.d.t.t.len d.e.d.t.t.cap, .int .i64 d.e.d.t.t.n, .int .i64 d.e.d.t.t.s, .slice d.e.d.ka d.e.d.n d.e.d.kc, .slice d.v.a d.v.len d.v.cap, .slice d.ta d.tb.length d.tc, .slice d.ka d.n d.kc] [.int .i64 0, .slice none 0 0, .int .i64 0, .int .i64 0, .slice none 0 0, .int .i64 0, .slice none 0 0, .int .i64 0, .int .i64 0, .slice none 0 0, .slice none 0 0, .slice none 0 0, .slice none 0 0] [.int .i64 d.k, .slice (some ⟨g1, 0, none⟩) d.pn d.pn, .int .i64 0, .int .i64 0, .slice none 0 0, .int .i64 0, .slice none 0 0, .int .i64 0, .int .i64 0, .slice none 0 0, .slice none 0 0, .slice none 0 0, .slice none 0 0]) := HT.out.set 1 _
    have st0 := (HT.out.ox.2 1 _ rfl).1
    have st1 := (HT.out.ox.2 1 _ rfl).2
    clear hy1 hz1 he1 hb1 e3 Z1 HZ1
    go_upto_region 4 with fail
    clear st0 st1 HT
    generalize (w1.setCell ⟨w.heap.size + 1 + 1, 1, none⟩ (.slice (some ⟨g1, 0, none⟩) d.pn d.pn)) = W1 at *
    have HT := HTn
    clear HTn
    have ld : W1.rangeAt w.heap.size 2 [.int .i64 d.e.d.k, .int .i64 d.e.d.op, .slice d.e.d.v.a d.e.d.v.len d.e.d.v.cap, .int .i64 d.e.d.t.t.k, .slice d.e.d.t.t.a d.e.d.t.t.len d.e.d.t.t.cap, .int .i64 d.e.d.t.t.n, .int .i64 d.e.d.t.t.s, .slice d.e.d.ka d.e.d.n d.e.d.kc] := HT.out.px.range 2 _ rfl
    have Z2 := HZ2.out
    go_wp2_with (refine wpList_load_mid rfl 28 _ rfl w.heap.size 2 rfl [.int .i64 d.e.d.k, .int .i64 d.e.d.op, .slice d.e.d.v.a d.e.d.v.len d.e.d.v.cap, .int .i64 d.e.d.t.t.k, .slice d.e.d.t.t.a d.e.d.t.t.len d.e.d.t.t.cap, .int .i64 d.e.d.t.t.n, .int .i64 d.e.d.t.t.s, .slice d.e.d.ka d.e.d.n d.e.d.kc] _ ld Try.underlying28 rfl (by kernel_rfl) ?_; try simp only [Act.put, List.setIfInBounds_toArray, List.set_cons_zero, List.set_cons_succ])
    refine (Z2 _ HT.out.bl).mono ?_
    rintro e w2 ⟨y2, rfl, hy2, he2, hb2⟩
    have e3 : (w.heap.size + 1 + 1 + 1) ≤ W1.heap.size := HT.out.base
    have HT : Hid (TS w w2 [.int .i64 d.k, .slice d.pa d.pn d.pc, .int .i64 d.e.d.k, .int .i64 d.e.d.op, .slice d.e.d.v.a d.e.d.v.len d.e.d.v.cap, .int .i64 d.e.d.t.t.k, .slice d.e.d.t.t.a d.e.d.t.t.len d.e.d.t.t.cap, .int .i64 d.e.d.t.t.n, .int .i64 d.e.d.t.t.s, .slice d.e.d.ka d.e.d.n d.e.d.kc, .slice d.v.a d.v.len d.v.cap, .slice d.ta d.tb.length d.tc, .slice d.ka d.n d.kc] [.int .i64 0, .slice none 0 0, .int .i64 0, .int .i64 0, .slice none 0 0, .int .i64 0, .slice none 0 0, .int .i64 0, .int .i64 0, .slice none 0 0, .slice none 0 0, .slice none 0 0, .slice none 0 0] [.int .i64 d.k, .slice (some ⟨g1, 0, none⟩) d.pn d.pn, .int .i64 0, .int .i64 0, .slice none 0 0, .int .i64 0, .slice none 0 0, .int .i64 0, .int .i64 0, .slice none 0 0, .slice none 0 0, .slice none 0 0, .slice none 0 0]) := HT.out.below hb2
    have HM2 : Hid (y2.lies (w.heap.size + 1 + 1 + 1) (w2.setCells (w.heap.size + 1 + 1) 2 [.int .i64 y2.d.k, .int .i64 y2.d.op, .slice y2.d.v.a y2.d.v.len y2.d.v.cap, .int .i64 y2.d.t.t.k, .slice y2.d.t.t.a y2.d.t.t.len y2.d.t.t.cap, .int .i64 y2.d.t.t.n, .int .i64 y2.d.t.t.s, .slice y2.d.ka y2.d.n y2.d.kc])) := ET.lies.upper (upper_sets (w.heap.size + 1 + 1) [.int .i64 y2.d.k, .int .i64 y2.d.op, .slice y2.d.v.a y2.d.v.len y2.d.v.cap, .int .i64 y2.d.t.t.k, .slice y2.d.t.t.a y2.d.t.t.len y2.d.t.t.cap, .int .i64 y2.d.t.t.n, .int .i64 y2.d.t.t.s, .slice y2.d.ka y2.d.n y2.d.kc] 2 w2) (ET.lies.base e3 hy2)
    have HM1 : Hid (KRow (w.heap.size + 1 + 1 + 1) (w2.setCells (w.heap.size + 1 + 1) 2 [.int .i64 y2.d.k, .int .i64 y2.d.op, .slice y2.d.v.a y2.d.v.len y2.d.v.cap, .int .i64 y2.d.t.t.k, .slice y2.d.t.t.a y2.d.t.t.len y2.d.t.t.cap, .int .i64 y2.d.t.t.n, .int .i64 y2.d.t.t.s, .slice y2.d.ka y2.d.n y2.d.kc]) 15 (some ⟨g1, 0, none⟩) d.pn (fun i => (k1 i).cells)) := (HM1.out.upper (Upper.of_below hb2)).upper (upper_sets (w.heap.size + 1 + 1) [.int .i64 y2.d.k, .int .i64 y2.d.op, .slice y2.d.v.a y2.d.v.len y2.d.v.cap, .int .i64 y2.d.t.t.k, .slice y2.d.t.t.a y2.d.t.t.len y2.d.t.t.cap, .int .i64 y2.d.t.t.n, .int .i64 y2.d.t.t.s, .slice y2.d.ka y2.d.n y2.d.kc] 2 w2)
    have HL1 : Hid (∀ i, i < d.pn → (k1 i).lies (w.heap.size + 1 + 1 + 1) (w2.setCells (w.heap.size + 1 + 1) 2 [.int .i64 y2.d.k, .int .i64 y2.d.op, .slice y2.d.v.a y2.d.v.len y2.d.v.cap, .int .i64 y2.d.t.t.k, .slice y2.d.t.t.a y2.d.t.t.len y2.d.t.t.cap, .int .i64 y2.d.t.t.n, .int .i64 y2.d.t.t.s, .slice y2.d.ka y2.d.n y2.d.kc])) := fun i hi => ((fun i hi => (HL1.out i hi).upper (Upper.of_below hb2)) i hi).upper (upper_sets (w.heap.size + 1 + 1) [.int .i64 y2.d.k, .int .i64 y2.d.op, .slice y2.d.v.a y2.d.v.len y2.d.v.cap, .int .i64 y2.d.t.t.k, .slice y2.d.t.t.a y2.d.t.t.len y2.d.t.t.cap, .int .i64 y2.d.t.t.n, .int .i64 y2.d.t.t.s, .slice y2.d.ka y2.d.n y2.d.kc] 2 w2)
    have HE2 : Hid (d.e.same y2) := he2
    have HTn : Hid (TS w (w2.setCells (w.heap.size + 1 + 1) 2 [.int .i64 y2.d.k, .int .i64 y2.d.op, .slice y2.d.v.a y2.d.v.len y2.d.v.cap, .int .i64 y2.d.t.t.k, .slice y2.d.t.t.a y2.d.t.t.len y2.d.t.t.cap, .int .i64 y2.d.t.t.n, .int .i64 y2.d.t.t.s, .slice y2.d.ka y2.d.n y2.d.kc]) [.int .i64 d.k, .slice d.pa d.pn d.pc, .int .i64 d.e.d.k, .int .i64 d.e.d.op, .slice d.e.d.v.a d.e.d.v.len d.e.d.v.cap, .int .i64 d.e.d.t.t.k, .slice d.e.d.t.t.a d.e.d.t.t.len d.e.d.t.t.cap, .int .i64 d.e.d.t.t.n, .int .i64 d.e.d.t.t.s, .slice d.e.d.ka d.e.d.n d.e.d.kc, .slice d.v.a d.v.len d.v.cap, .slice d.ta d.tb.length d.tc, .slice d.ka d.n d.kc] [.int .i64 0, .slice none 0 0, .int .i64 0, .int .i64 0, .slice none 0 0, .int .i64 0, .slice none 0 0, .int .i64 0, .int .i64 0, .slice none 0 0, .slice none 0 0, .slice none 0 0, .slice none 0 0] [.int .i64 d.k, .slice (some ⟨g1, 0, none⟩) d.pn d.pn, .int .i64 y2.d.k, .int .i64 y2.d.op, .slice y2.d.v.a y2.d.v.len y2.d.v.cap, .int .i64 y2.d.t.t.k, .slice y2.d.t.t.a y2.d.t.t.len y2.d.t.t.cap, .int .i64 y2.d.t.t.n, .int .i64 y2.d.t.t.s, .slice y2.d.ka y2.d.n y2.d.kc, .slice none 0 0, .slice none 0 0, .slice none 0 0]) := HT.out.sets 2 _
    have st0 : w2.there (w.heap.size + 1 + 1) 2 8 := HT.out.ox.there 2 8 (by simp)
    have one1 : (#[.int .i64 y2.d.k, .int .i64 y2.d.op, .slice y2.d.v.a y2.d.v.len y2.d.v.cap, .int .i64 y2.d.t.t.k, .slice y2.d.t.t.a y2.d.t.t.len y2.d.t.t.cap, .int .i64 y2.d.t.t.n, .int .i64 y2.d.t.t.s, .slice y2.d.ka y2.d.n y2.d.kc] : Array Value).all (·.oneCell') = true := all_oneCell_toArray (cs := [.int .i64 y2.d.k, .int .i64 y2.d.op, .slice y2.d.v.a y2.d.v.len y2.d.v.cap, .int .i64 y2.d.t.t.k, .slice y2.d.t.t.a y2.d.t.t.len y2.d.t.t.cap, .int .i64 y2.d.t.t.n, .int .i64 y2.d.t.t.s, .slice y2.d.ka y2.d.n y2.d.kc]) (by simp [Value.oneCell'])
    clear hy2 he2 hb2 e3 Z2 HZ2 ld
    go_upto_region 5 with (refine wpList_store_mid rfl 39 _ _ rfl (w.heap.size + 1 + 1) 2 #[.int .i64 y2.d.k, .int .i64 y2.d.op, .slice y2.d.v.a y2.d.v.len y2.d.v.cap, .int .i64 y2.d.t.t.k, .slice y2.d.t.t.a y2.d.t.t.len y2.d.t.t.cap, .int .i64 y2.d.t.t.n, .int .i64 y2.d.t.t.s, .slice y2.d.ka y2.d.n y2.d.kc] rfl rfl st0 (by kernel_rfl) one1 ?_; try simp only [Act.put])
    clear st0 one1 HT
    generalize (w2.setCells (w.heap.size + 1 + 1) 2 [.int .i64 y2.d.k, .int .i64 y2.d.op, .slice y2.d.v.a y2.d.v.len y2.d.v.cap, .int .i64 y2.d.t.t.k, .slice y2.d.t.t.a y2.d.t.t.len y2.d.t.t.cap, .int .i64 y2.d.t.t.n, .int .i64 y2.d.t.t.s, .slice y2.d.ka y2.d.n y2.d.kc]) = W2 at *
    have HT := HTn
    clear HTn
    have ld := HT.out.px.2 10 _ rfl
    have Z3 := HZ3.out
    go_wp2_with fail
    refine (Z3 _ HT.out.bl).mono ?_
    rintro e w3 ⟨y3, rfl, hy3, he3, hb3⟩
    have e3 : (w.heap.size + 1 + 1 + 1) ≤ W2.heap.size := HT.out.base
    have HT : Hid (TS w w3 [.int .i64 d.k, .slice d.pa d.pn d.pc, .int .i64 d.e.d.k, .int .i64 d.e.d.op, .slice d.e.d.v.a d.e.d.v.len d.e.d.v.cap, .int .i64 d.e.d.t.t.k, .slice d.e.d.t.t.a d.e.d.t.t.len d.e.d.t.t.cap, .int .i64 d.e.d.t.t.n, .int .i64 d.e.d.t.t.s, .slice d.e.d.ka d.e.d.n d.e.d.kc, .slice d.v.a d.v.len d.v.cap, .slice d.ta d.tb.length d.tc, .slice d.ka d.n d.kc] [.int .i64 0, .slice none 0 0, .int .i64 0, .int .i64 0, .slice none 0 0, .int .i64 0, .slice none 0 0, .int .i64 0, .int .i64 0, .slice none 0 0, .slice none 0 0, .slice none 0 0, .slice none 0 0] [.int .i64 d.k, .slice (some ⟨g1, 0, none⟩) d.pn d.pn, .int .i64 y2.d.k, .int .i64 y2.d.op, .slice y2.d.v.a y2.d.v.len y2.d.v.cap, .int .i64 y2.d.t.t.k, .slice y2.d.t.t.a y2.d.t.t.len y2.d.t.t.cap, .int .i64 y2.d.t.t.n, .int .i64 y2.d.t.t.s, .slice y2.d.ka y2.d.n y2.d.kc, .slice none 0 0, .slice none 0 0, .slice none 0 0]) := HT.out.below hb3
    have HM3 : Hid (BsF (w.heap.size + 1 + 1 + 1) (w3.setCell ⟨w.heap.size + 1 + 1, 10, none⟩ (.slice y3.a y3.len y3.cap)) y3) := (hy3.base e3).upper (upper_set (w := w3) (g := w.heap.size + 1 + 1) (i := 10) (.slice y3.a y3.len y3.cap))
    have HM2 : Hid (y2.lies (w.heap.size + 1 + 1 + 1) (w3.setCell ⟨w.heap.size + 1 + 1, 10, none⟩ (.slice y3.a y3.len y3.cap))) := ET.lies.upper (upper_set (w := w3) (g := w.heap.size + 1 + 1) (i := 10) (.slice y3.a y3.len y3.cap)) (ET.lies.upper (Upper.of_below hb3) HM2.out)
    have HM1 : Hid (KRow (w.heap.size + 1 + 1 + 1) (w3.setCell ⟨w.heap.size + 1 + 1, 10, none⟩ (.slice y3.a y3.len y3.cap)) 15 (some ⟨g1, 0, none⟩) d.pn (fun i => (k1 i).cells)) := (HM1.out.upper (Upper.of_below hb3)).upper (upper_set (w := w3) (g := w.heap.size + 1 + 1) (i := 10) (.slice y3.a y3.len y3.cap))
    have HL1 : Hid (∀ i, i < d.pn → (k1 i).lies (w.heap.size + 1 + 1 + 1) (w3.setCell ⟨w.heap.size + 1 + 1, 10, none⟩ (.slice y3.a y3.len y3.cap))) := fun i hi => ((fun i hi => (HL1.out i hi).upper (Upper.of_below hb3)) i hi).upper (upper_set (w := w3) (g := w.heap.size + 1 + 1) (i := 10) (.slice y3.a y3.len y3.cap))
    have HE3 : Hid (d.v.b = y3.b) := he3
    have HTn : Hid (TS w (w3.setCell ⟨w.heap.size + 1 + 1, 10, none⟩ (.slice y3.a y3.len y3.cap)) [.int .i64 d.k, .slice d.pa d.pn d.pc, .int .i64 d.e.d.k, .int .i64 d.e.d.op, .slice d.e.d.v.a d.e.d.v.len d.e.d.v.cap, .int .i64 d.e.d.t.t.k, .slice d.e.d.t.t.a d.e.d.t.t.len d.e.d.t.t.cap, .int .i64 d.e.d.t.t.n, .int .i64 d.e.d.t.t.s, .slice d.e.d.ka d.e.d.n d.e.d.kc, .slice d.v.a d.v.len d.v.cap, .slice d.ta d.tb.length d.tc, .slice d.ka d.n d.kc] [.int .i64 0, .slice none 0 0, .int .i64 0, .int .i64 0, .slice none 0 0, .int .i64 0, .slice none 0 0, .int .i64 0, .int .i64 0, .slice none 0 0, .slice none 0 0, .slice none 0 0, .slice none 0 0] [.int .i64 d.k, .slice (some ⟨g1, 0, none⟩) d.pn d.pn, .int .i64 y2.d.k, .int .i64 y2.d.op, .slice y2.d.v.a y2.d.v.len y2.d.v.cap, .int .i64 y2.d.t.t.k, .slice y2.d.t.t.a y2.d.t.t.len y2.d.t.t.cap, .int .i64 y2.d.t.t.n, .int .i64 y2.d.t.t.s, .slice y2.d.ka y2.d.n y2.d.kc, .slice y3.a y3.len y3.cap, .slice none 0 0, .slice none 0 0]) := HT.out.set 10 _
    have st0 := (HT.out.ox.2 10 _ rfl).1
    have st1 := (HT.out.ox.2 10 _ rfl).2
    clear hy3 he3 hb3 e3 Z3 HZ3 ld
    go_upto_region 6 with fail
    clear st0 st1 HT
    generalize (w3.setCell ⟨w.heap.size + 1 + 1, 10, none⟩ (.slice y3.a y3.len y3.cap)) = W3 at *
    have HT := HTn
    clear HTn
    have ld := HT.out.px.2 11 _ rfl
    have Z4 := HZ4.out
    go_wp2_with fail
    refine (Z4 _ HT.out.bl).mono ?_
    rintro e w4 ⟨g4, c4, y4, rfl, hy4, he4, hb4⟩
    have e3 : (w.heap.size + 1 + 1 + 1) ≤ W3.heap.size := HT.out.base
    have HT : Hid (TS w w4 [.int .i64 d.k, .slice d.pa d.pn d.pc, .int .i64 d.e.d.k, .int .i64 d.e.d.op, .slice d.e.d.v.a d.e.d.v.len d.e.d.v.cap, .int .i64 d.e.d.t.t.k, .slice d.e.d.t.t.a d.e.d.t.t.len d.e.d.t.t.cap, .int .i64 d.e.d.t.t.n, .int .i64 d.e.d.t.t.s, .slice d.e.d.ka d.e.d.n d.e.d.kc, .slice d.v.a d.v.len d.v.cap, .slice d.ta d.tb.length d.tc, .slice d.ka d.n d.kc] [.int .i64 0, .slice none 0 0, .int .i64 0, .int .i64 0, .slice none 0 0, .int .i64 0, .slice none 0 0, .int .i64 0, .int .i64 0, .slice none 0 0, .slice none 0 0, .slice none 0 0, .slice none 0 0] [.int .i64 d.k, .slice (some ⟨g1, 0, none⟩) d.pn d.pn, .int .i64 y2.d.k, .int .i64 y2.d.op, .slice y2.d.v.a y2.d.v.len y2.d.v.cap, .int .i64 y2.d.t.t.k, .slice y2.d.t.t.a y2.d.t.t.len y2.d.t.t.cap, .int .i64 y2.d.t.t.n, .int .i64 y2.d.t.t.s, .slice y2.d.ka y2.d.n y2.d.kc, .slice y3.a y3.len y3.cap, .slice none 0 0, .slice none 0 0]) := HT.out.below hb4
    have HM4 : Hid (TRowF (w.heap.size + 1 + 1 + 1) (w4.setCell ⟨w.heap.size + 1 + 1, 11, none⟩ (.slice g4 y4.length c4)) g4 y4) := (hy4.base e3).upper (upper_set (w := w4) (g := w.heap.size + 1 + 1) (i := 11) (.slice g4 y4.length c4))
    have HM3 : Hid (BsF (w.heap.size + 1 + 1 + 1) (w4.setCell ⟨w.heap.size + 1 + 1, 11, none⟩ (.slice g4 y4.length c4)) y3) := (HM3.out.upper (Upper.of_below hb4)).upper (upper_set (w := w4) (g := w.heap.size + 1 + 1) (i := 11) (.slice g4 y4.length c4))
    have HM2 : Hid (y2.lies (w.heap.size + 1 + 1 + 1) (w4.setCell ⟨w.heap.size + 1 + 1, 11, none⟩ (.slice g4 y4.length c4))) := ET.lies.upper (upper_set (w := w4) (g := w.heap.size + 1 + 1) (i := 11) (.slice g4 y4.length c4)) (ET.lies.upper (Upper.of_below hb4) HM2.out)
    have HM1 : Hid (KRow (w.heap.size + 1 + 1 + 1) (w4.setCell ⟨w.heap.size + 1 + 1, 11, none⟩ (.slice g4 y4.length c4)) 15 (some ⟨g1, 0, none⟩) d.pn (fun i => (k1 i).cells)) := (HM1.out.upper (Upper.of_below hb4)).upper (upper_set (w := w4) (g := w.heap.size + 1 + 1) (i := 11) (.slice g4 y4.length c4))
    have HL1 : Hid (∀ i, i < d.pn → (k1 i).lies (w.heap.size + 1 + 1 + 1) (w4.setCell ⟨w.heap.size + 1 + 1, 11, none⟩ (.slice g4 y4.length c4))) := fun i hi => ((fun i hi => (HL1.out i hi).upper (Upper.of_below hb4)) i hi).upper (upper_set (w := w4) (g := w.heap.size + 1 + 1) (i := 11) (.slice g4 y4.length c4))
    have HE4 : Hid (d.tb.map TB.td = y4.map TB.td) := he4
    have HTn : Hid (TS w (w4.setCell ⟨w.heap.size + 1 + 1, 11, none⟩ (.slice g4 y4.length c4)) [.int .i64 d.k, .slice d.pa d.pn d.pc, .int .i64 d.e.d.k, .int .i64 d.e.d.op, .slice d.e.d.v.a d.e.d.v.len d.e.d.v.cap, .int .i64 d.e.d.t.t.k, .slice d.e.d.t.t.a d.e.d.t.t.len d.e.d.t.t.cap, .int .i64 d.e.d.t.t.n, .int .i64 d.e.d.t.t.s, .slice d.e.d.ka d.e.d.n d.e.d.kc, .slice d.v.a d.v.len d.v.cap, .slice d.ta d.tb.length d.tc, .slice d.ka d.n d.kc] [.int .i64 0, .slice none 0 0, .int .i64 0, .int .i64 0, .slice none 0 0, .int .i64 0, .slice none 0 0, .int .i64 0, .int .i64 0, .slice none 0 0, .slice none 0 0, .slice none 0 0, .slice none 0 0] [.int .i64 d.k, .slice (some ⟨g1, 0, none⟩) d.pn d.pn, .int .i64 y2.d.k, .int .i64 y2.d.op, .slice y2.d.v.a y2.d.v.len y2.d.v.cap, .int .i64 y2.d.t.t.k, .slice y2.d.t.t.a y2.d.t.t.len y2.d.t.t.cap, .int .i64 y2.d.t.t.n, .int .i64 y2.d.t.t.s, .slice y2.d.ka y2.d.n y2.d.kc, .slice y3.a y3.len y3.cap, .slice g4 y4.length c4, .slice none 0 0]) := HT.out.set 11 _
    have st0 := (HT.out.ox.2 11 _ rfl).1
    have st1 := (HT.out.ox.2 11 _ rfl).2
    clear hy4 he4 hb4 e3 Z4 HZ4 ld
    go_upto_region 7 with fail
    clear st0 st1 HT
    generalize (w4.setCell ⟨w.heap.size + 1 + 1, 11, none⟩ (.slice g4 y4.length c4)) = W4 at *
    have HT := HTn
    clear HTn
    have ld := HT.out.px.2 12 _ rfl
    have Z5 := HZ5.out
    go_wp2_with fail
    refine (Z5 _ HT.out.bl).mono ?_
    rintro e w5 ⟨g5, k5, rfl, hy5, hz5, he5, hb5⟩
    have e3 : (w.heap.size + 1 + 1 + 1) ≤ W4.heap.size := HT.out.base
    have HT : Hid (TS w w5 [.int .i64 d.k, .slice d.pa d.pn d.pc, .int .i64 d.e.d.k, .int .i64 d.e.d.op, .slice d.e.d.v.a d.e.d.v.len d.e.d.v.cap, .int .i64 d.e.d.t.t.k, .slice d.e.d.t.t.a d.e.d.t.t.len d.e.d.t.t.cap, .int .i64 d.e.d.t.t.n, .int .i64 d.e.d.t.t.s, .slice d.e.d.ka d.e.d.n d.e.d.kc, .slice d.v.a d.v.len d.v.cap, .slice d.ta d.tb.length d.tc, .slice d.ka d.n d.kc] [.int .i64 0, .slice none 0 0, .int .i64 0, .int .i64 0, .slice none 0 0, .int .i64 0, .slice none 0 0, .int .i64 0, .int .i64 0, .slice none 0 0, .slice none 0 0, .slice none 0 0, .slice none 0 0] [.int .i64 d.k, .slice (some ⟨g1, 0, none⟩) d.pn d.pn, .int .i64 y2.d.k, .int .i64 y2.d.op, .slice y2.d.v.a y2.d.v.len y2.d.v.cap, .int .i64 y2.d.t.t.k, .slice y2.d.t.t.a y2.d.t.t.len y2.d.t.t.cap, .int .i64 y2.d.t.t.n, .int .i64 y2.d.t.t.s, .slice y2.d.ka y2.d.n y2.d.kc, .slice y3.a y3.len y3.cap, .slice g4 y4.length c4, .slice none 0 0]) := HT.out.below hb5
    have HM5 : Hid (KRow (w.heap.size + 1 + 1 + 1) (w5.setCell ⟨w.heap.size + 1 + 1, 12, none⟩ (.slice (some ⟨g5, 0, none⟩) d.n d.n)) 13 (some ⟨g5, 0, none⟩) d.n (fun i => (k5 i).d.cells)) := (hy5.base e3).upper (upper_set (w := w5) (g := w.heap.size + 1 + 1) (i := 12) (.slice (some ⟨g5, 0, none⟩) d.n d.n))
    have HL5 : Hid (∀ i, i < d.n → (k5 i).lies (w.heap.size + 1 + 1 + 1) (w5.setCell ⟨w.heap.size + 1 + 1, 12, none⟩ (.slice (some ⟨g5, 0, none⟩) d.n d.n))) := fun i hi => AT.lies.upper (upper_set (w := w5) (g := w.heap.size + 1 + 1) (i := 12) (.slice (some ⟨g5, 0, none⟩) d.n d.n)) ((fun i hi => AT.lies.base e3 (hz5 i hi)) i hi)
    have HM4 : Hid (TRowF (w.heap.size + 1 + 1 + 1) (w5.setCell ⟨w.heap.size + 1 + 1, 12, none⟩ (.slice (some ⟨g5, 0, none⟩) d.n d.n)) g4 y4) := (HM4.out.upper (Upper.of_below hb5)).upper (upper_set (w := w5) (g := w.heap.size + 1 + 1) (i := 12) (.slice (some ⟨g5, 0, none⟩) d.n d.n))
    have HM3 : Hid (BsF (w.heap.size + 1 + 1 + 1) (w5.setCell ⟨w.heap.size + 1 + 1, 12, none⟩ (.slice (some ⟨g5, 0, none⟩) d.n d.n)) y3) := (HM3.out.upper (Upper.of_below hb5)).upper (upper_set (w := w5) (g := w.heap.size + 1 + 1) (i := 12) (.slice (some ⟨g5, 0, none⟩) d.n d.n))
    have HM2 : Hid (y2.lies (w.heap.size + 1 + 1 + 1) (w5.setCell ⟨w.heap.size + 1 + 1, 12, none⟩ (.slice (some ⟨g5, 0, none⟩) d.n d.n))) := ET.lies.upper (upper_set (w := w5) (g := w.heap.size + 1 + 1) (i := 12) (.slice (some ⟨g5, 0, none⟩) d.n d.n)) (ET.lies.upper (Upper.of_below hb5) HM2.out)
    have HM1 : Hid (KRow (w.heap.size + 1 + 1 + 1) (w5.setCell ⟨w.heap.size + 1 + 1, 12, none⟩ (.slice (some ⟨g5, 0, none⟩) d.n d.n)) 15 (some ⟨g1, 0, none⟩) d.pn (fun i => (k1 i).cells)) := (HM1.out.upper (Upper.of_below hb5)).upper (upper_set (w := w5) (g := w.heap.size + 1 + 1) (i := 12) (.slice (some ⟨g5, 0, none⟩) d.n d.n))
    have HL1 : Hid (∀ i, i < d.pn → (k1 i).lies (w.heap.size + 1 + 1 + 1) (w5.setCell ⟨w.heap.size + 1 + 1, 12, none⟩ (.slice (some ⟨g5, 0, none⟩) d.n d.n))) := fun i hi => ((fun i hi => (HL1.out i hi).upper (Upper.of_below hb5)) i hi).upper (upper_set (w := w5) (g := w.heap.size + 1 + 1) (i := 12) (.slice (some ⟨g5, 0, none⟩) d.n d.n))
    have HE5 : Hid (∀ i, i < d.n → (kid i).same (k5 i)) := he5
    have HTn : Hid (TS w (w5.setCell ⟨w.heap.size + 1 + 1, 12, none⟩ (.slice (some ⟨g5, 0, none⟩) d.n d.n)) [.int .i64 d.k, .slice d.pa d.pn d.pc, .int .i64 d.e.d.k, .int .i64 d.e.d.op, .slice d.e.d.v.a d.e.d.v.len d.e.d.v.cap, .int .i64 d.e.d.t.t.k, .slice d.e.d.t.t.a d.e.d.t.t.len d.e.d.t.t.cap, .int .i64 d.e.d.t.t.n, .int .i64 d.e.d.t.t.s, .slice d.e.d.ka d.e.d.n d.e.d.kc, .slice d.v.a d.v.len d.v.cap, .slice d.ta d.tb.length d.tc, .slice d.ka d.n d.kc] [.int .i64 0, .slice none 0 0, .int .i64 0, .int .i64 0, .slice none 0 0, .int .i64 0, .slice none 0 0, .int .i64 0, .int .i64 0, .slice none 0 0, .slice none 0 0, .slice none 0 0, .slice none 0 0] [.int .i64 d.k, .slice (some ⟨g1, 0, none⟩) d.pn d.pn, .int .i64 y2.d.k, .int .i64 y2.d.op, .slice y2.d.v.a y2.d.v.len y2.d.v.cap, .int .i64 y2.d.t.t.k, .slice y2.d.t.t.a y2.d.t.t.len y2.d.t.t.cap, .int .i64 y2.d.t.t.n, .int .i64 y2.d.t.t.s, .slice y2.d.ka y2.d.n y2.d.kc, .slice y3.a y3.len y3.cap, .slice g4 y4.length c4, .slice (some ⟨g5, 0, none⟩) d.n d.n]) := HT.out.set 12 _
    have st0 := (HT.out.ox.2 12 _ rfl).1
    have st1 := (HT.out.ox.2 12 _ rfl).2
    clear hy5 hz5 he5 hb5 e3 Z5 HZ5 ld
    go_upto_region 8 with fail
    clear st0 st1 HT
    generalize (w5.setCell ⟨w.heap.size + 1 + 1, 12, none⟩ (.slice (some ⟨g5, 0, none⟩) d.n d.n)) = W5 at *
    have HT := HTn
    clear HTn
    have ld : W5.rangeAt (w.heap.size + 1 + 1) 0 [.int .i64 d.k, .slice (some ⟨g1, 0, none⟩) d.pn d.pn, .int .i64 y2.d.k, .int .i64 y2.d.op, .slice y2.d.v.a y2.d.v.len y2.d.v.cap, .int .i64 y2.d.t.t.k, .slice y2.d.t.t.a y2.d.t.t.len y2.d.t.t.cap, .int .i64 y2.d.t.t.n, .int .i64 y2.d.t.t.s, .slice y2.d.ka y2.d.n y2.d.kc, .slice y3.a y3.len y3.cap, .slice g4 y4.length c4, .slice (some ⟨g5, 0, none⟩) d.n d.n] := HT.out.ox.box.range 0 _ rfl
    have st0 : W5.there (w.heap.size + 1) 0 13 := HT.out.rz.there 0 13 (by simp)
    have one1 : (#[.int .i64 d.k, .slice (some ⟨g1, 0, none⟩) d.pn d.pn, .int .i64 y2.d.k, .int .i64 y2.d.op, .slice y2.d.v.a y2.d.v.len y2.d.v.cap, .int .i64 y2.d.t.t.k, .slice y2.d.t.t.a y2.d.t.t.len y2.d.t.t.cap, .int .i64 y2.d.t.t.n, .int .i64 y2.d.t.t.s, .slice y2.d.ka y2.d.n y2.d.kc, .slice y3.a y3.len y3.cap, .slice g4 y4.length c4, .slice (some ⟨g5, 0, none⟩) d.n d.n] : Array Value).all (·.oneCell') = true := all_oneCell_toArray (cs := [.int .i64 d.k, .slice (some ⟨g1, 0, none⟩) d.pn d.pn, .int .i64 y2.d.k, .int .i64 y2.d.op, .slice y2.d.v.a y2.d.v.len y2.d.v.cap, .int .i64 y2.d.t.t.k, .slice y2.d.t.t.a y2.d.t.t.len y2.d.t.t.cap, .int .i64 y2.d.t.t.n, .int .i64 y2.d.t.t.s, .slice y2.d.ka y2.d.n y2.d.kc, .slice y3.a y3.len y3.cap, .slice g4 y4.length c4, .slice (some ⟨g5, 0, none⟩) d.n d.n]) (by simp [Value.oneCell'])
    go_wp2_with (first | (refine wpList_load_mid rfl 43 _ rfl (w.heap.size + 1 + 1) 0 rfl [.int .i64 d.k, .slice (some ⟨g1, 0, none⟩) d.pn d.pn, .int .i64 y2.d.k, .int .i64 y2.d.op, .slice y2.d.v.a y2.d.v.len y2.d.v.cap, .int .i64 y2.d.t.t.k, .slice y2.d.t.t.a y2.d.t.t.len y2.d.t.t.cap, .int .i64 y2.d.t.t.n, .int .i64 y2.d.t.t.s, .slice y2.d.ka y2.d.n y2.d.kc, .slice y3.a y3.len y3.cap, .slice g4 y4.length c4, .slice (some ⟨g5, 0, none⟩) d.n d.n] _ ld Try.underlying43 rfl (by kernel_rfl) ?_; try simp only [Act.put, List.setIfInBounds_toArray, List.set_cons_zero, List.set_cons_succ]) | (refine wpList_store_mid rfl 43 _ _ rfl (w.heap.size + 1) 0 #[.int .i64 d.k, .slice (some ⟨g1, 0, none⟩) d.pn d.pn, .int .i64 y2.d.k, .int .i64 y2.d.op, .slice y2.d.v.a y2.d.v.len y2.d.v.cap, .int .i64 y2.d.t.t.k, .slice y2.d.t.t.a y2.d.t.t.len y2.d.t.t.cap, .int .i64 y2.d.t.t.n, .int .i64 y2.d.t.t.s, .slice y2.d.ka y2.d.n y2.d.kc, .slice y3.a y3.len y3.cap, .slice g4 y4.length c4, .slice (some ⟨g5, 0, none⟩) d.n d.n] rfl rfl st0 (by kernel_rfl) one1 ?_; try simp only [Act.put]))
    have hrd : (W5.setCells (w.heap.size + 1) 0 [.int .i64 d.k, .slice (some ⟨g1, 0, none⟩) d.pn d.pn, .int .i64 y2.d.k, .int .i64 y2.d.op, .slice y2.d.v.a y2.d.v.len y2.d.v.cap, .int .i64 y2.d.t.t.k, .slice y2.d.t.t.a y2.d.t.t.len y2.d.t.t.cap, .int .i64 y2.d.t.t.n, .int .i64 y2.d.t.t.s, .slice y2.d.ka y2.d.n y2.d.kc, .slice y3.a y3.len y3.cap, .slice g4 y4.length c4, .slice (some ⟨g5, 0, none⟩) d.n d.n]).rangeAt (w.heap.size + 1) 0 [.int .i64 d.k, .slice (some ⟨g1, 0, none⟩) d.pn d.pn, .int .i64 y2.d.k, .int .i64 y2.d.op, .slice y2.d.v.a y2.d.v.len y2.d.v.cap, .int .i64 y2.d.t.t.k, .slice y2.d.t.t.a y2.d.t.t.len y2.d.t.t.cap, .int .i64 y2.d.t.t.n, .int .i64 y2.d.t.t.s, .slice y2.d.ka y2.d.n y2.d.kc, .slice y3.a y3.len y3.cap, .slice g4 y4.length c4, .slice (some ⟨g5, 0, none⟩) d.n d.n] := World.rangeAt_setCells_same _ _ _ _ st0
    refine bodyPost_ret (v := .agg #[.int .i64 d.k, .slice (some ⟨g1, 0, none⟩) d.pn d.pn, .int .i64 y2.d.k, .int .i64 y2.d.op, .slice y2.d.v.a y2.d.v.len y2.d.v.cap, .int .i64 y2.d.t.t.k, .slice y2.d.t.t.a y2.d.t.t.len y2.d.t.t.cap, .int .i64 y2.d.t.t.n, .int .i64 y2.d.t.t.s, .slice y2.d.ka y2.d.n y2.d.kc, .slice y3.a y3.len y3.cap, .slice g4 y4.length c4, .slice (some ⟨g5, 0, none⟩) d.n d.n]) ?hr rfl ?hp
    case hr => exact results_cell rfl rfl (run_loadVar_mid (P := Try.prog) _ (w.heap.size + 1) 0 43 [.int .i64 d.k, .slice (some ⟨g1, 0, none⟩) d.pn d.pn, .int .i64 y2.d.k, .int .i64 y2.d.op, .slice y2.d.v.a y2.d.v.len y2.d.v.cap, .int .i64 y2.d.t.t.k, .slice y2.d.t.t.a y2.d.t.t.len y2.d.t.t.cap, .int .i64 y2.d.t.t.n, .int .i64 y2.d.t.t.s, .slice y2.d.ka y2.d.n y2.d.kc, .slice y3.a y3.len y3.cap, .slice g4 y4.length c4, .slice (some ⟨g5, 0, none⟩) d.n d.n] _ hrd Try.underlying43 rfl (by kernel_rfl))
    have HM5f : KRow w.heap.size (W5.setCells (w.heap.size + 1) 0 [.int .i64 d.k, .slice (some ⟨g1, 0, none⟩) d.pn d.pn, .int .i64 y2.d.k, .int .i64 y2.d.op, .slice y2.d.v.a y2.d.v.len y2.d.v.cap, .int .i64 y2.d.t.t.k, .slice y2.d.t.t.a y2.d.t.t.len y2.d.t.t.cap, .int .i64 y2.d.t.t.n, .int .i64 y2.d.t.t.s, .slice y2.d.ka y2.d.n y2.d.kc, .slice y3.a y3.len y3.cap, .slice g4 y4.length c4, .slice (some ⟨g5, 0, none⟩) d.n d.n]) 13 (some ⟨g5, 0, none⟩) d.n (fun i => (k5 i).d.cells) := ((HM5.out.upper ((upper_sets (w.heap.size + 1) [.int .i64 d.k, .slice (some ⟨g1, 0, none⟩) d.pn d.pn, .int .i64 y2.d.k, .int .i64 y2.d.op, .slice y2.d.v.a y2.d.v.len y2.d.v.cap, .int .i64 y2.d.t.t.k, .slice y2.d.t.t.a y2.d.t.t.len y2.d.t.t.cap, .int .i64 y2.d.t.t.n, .int .i64 y2.d.t.t.s, .slice y2.d.ka y2.d.n y2.d.kc, .slice y3.a y3.len y3.cap, .slice g4 y4.length c4, .slice (some ⟨g5, 0, none⟩) d.n d.n] 0 W5).mono (by omega))).base (by omega))
    have HL5f : ∀ i, i < d.n → (k5 i).lies w.heap.size (W5.setCells (w.heap.size + 1) 0 [.int .i64 d.k, .slice (some ⟨g1, 0, none⟩) d.pn d.pn, .int .i64 y2.d.k, .int .i64 y2.d.op, .slice y2.d.v.a y2.d.v.len y2.d.v.cap, .int .i64 y2.d.t.t.k, .slice y2.d.t.t.a y2.d.t.t.len y2.d.t.t.cap, .int .i64 y2.d.t.t.n, .int .i64 y2.d.t.t.s, .slice y2.d.ka y2.d.n y2.d.kc, .slice y3.a y3.len y3.cap, .slice g4 y4.length c4, .slice (some ⟨g5, 0, none⟩) d.n d.n]) := (fun i hi => AT.lies.base (by omega) ((fun i hi => AT.lies.upper ((upper_sets (w.heap.size + 1) [.int .i64 d.k, .slice (some ⟨g1, 0, none⟩) d.pn d.pn, .int .i64 y2.d.k, .int .i64 y2.d.op, .slice y2.d.v.a y2.d.v.len y2.d.v.cap, .int .i64 y2.d.t.t.k, .slice y2.d.t.t.a y2.d.t.t.len y2.d.t.t.cap, .int .i64 y2.d.t.t.n, .int .i64 y2.d.t.t.s, .slice y2.d.ka y2.d.n y2.d.kc, .slice y3.a y3.len y3.cap, .slice g4 y4.length c4, .slice (some ⟨g5, 0, none⟩) d.n d.n] 0 W5).mono (by omega)) (HL5.out i hi)) i hi))
    have HM4f : TRowF w.heap.size (W5.setCells (w.heap.size + 1) 0 [.int .i64 d.k, .slice (some ⟨g1, 0, none⟩) d.pn d.pn, .int .i64 y2.d.k, .int .i64 y2.d.op, .slice y2.d.v.a y2.d.v.len y2.d.v.cap, .int .i64 y2.d.t.t.k, .slice y2.d.t.t.a y2.d.t.t.len y2.d.t.t.cap, .int .i64 y2.d.t.t.n, .int .i64 y2.d.t.t.s, .slice y2.d.ka y2.d.n y2.d.kc, .slice y3.a y3.len y3.cap, .slice g4 y4.length c4, .slice (some ⟨g5, 0, none⟩) d.n d.n]) g4 y4 := ((HM4.out.upper ((upper_sets (w.heap.size + 1) [.int .i64 d.k, .slice (some ⟨g1, 0, none⟩) d.pn d.pn, .int .i64 y2.d.k, .int .i64 y2.d.op, .slice y2.d.v.a y2.d.v.len y2.d.v.cap, .int .i64 y2.d.t.t.k, .slice y2.d.t.t.a y2.d.t.t.len y2.d.t.t.cap, .int .i64 y2.d.t.t.n, .int .i64 y2.d.t.t.s, .slice y2.d.ka y2.d.n y2.d.kc, .slice y3.a y3.len y3.cap, .slice g4 y4.length c4, .slice (some ⟨g5, 0, none⟩) d.n d.n] 0 W5).mono (by omega))).base (by omega))
    have HM3f : BsF w.heap.size (W5.setCells (w.heap.size + 1) 0 [.int .i64 d.k, .slice (some ⟨g1, 0, none⟩) d.pn d.pn, .int .i64 y2.d.k, .int .i64 y2.d.op, .slice y2.d.v.a y2.d.v.len y2.d.v.cap, .int .i64 y2.d.t.t.k, .slice y2.d.t.t.a y2.d.t.t.len y2.d.t.t.cap, .int .i64 y2.d.t.t.n, .int .i64 y2.d.t.t.s, .slice y2.d.ka y2.d.n y2.d.kc, .slice y3.a y3.len y3.cap, .slice g4 y4.length c4, .slice (some ⟨g5, 0, none⟩) d.n d.n]) y3 := ((HM3.out.upper ((upper_sets (w.heap.size + 1) [.int .i64 d.k, .slice (some ⟨g1, 0, none⟩) d.pn d.pn, .int .i64 y2.d.k, .int .i64 y2.d.op, .slice y2.d.v.a y2.d.v.len y2.d.v.cap, .int .i64 y2.d.t.t.k, .slice y2.d.t.t.a y2.d.t.t.len y2.d.t.t.cap, .int .i64 y2.d.t.t.n, .int .i64 y2.d.t.t.s, .slice y2.d.ka y2.d.n y2.d.kc, .slice y3.a y3.len y3.cap, .slice g4 y4.length c4, .slice (some ⟨g5, 0, none⟩) d.n d.n] 0 W5).mono (by omega))).base (by omega))
    have HM2f : y2.lies w.heap.size (W5.setCells (w.heap.size + 1) 0 [.int .i64 d.k, .slice (some ⟨g1, 0, none⟩) d.pn d.pn, .int .i64 y2.d.k, .int .i64 y2.d.op, .slice y2.d.v.a y2.d.v.len y2.d.v.cap, .int .i64 y2.d.t.t.k, .slice y2.d.t.t.a y2.d.t.t.len y2.d.t.t.cap, .int .i64 y2.d.t.t.n, .int .i64 y2.d.t.t.s, .slice y2.d.ka y2.d.n y2.d.kc, .slice y3.a y3.len y3.cap, .slice g4 y4.length c4, .slice (some ⟨g5, 0, none⟩) d.n d.n]) := (ET.lies.base (by omega) (ET.lies.upper ((upper_sets (w.heap.size + 1) [.int .i64 d.k, .slice (some ⟨g1, 0, none⟩) d.pn d.pn, .int .i64 y2.d.k, .int .i64 y2.d.op, .slice y2.d.v.a y2.d.v.len y2.d.v.cap, .int .i64 y2.d.t.t.k, .slice y2.d.t.t.a y2.d.t.t.len y2.d.t.t.cap, .int .i64 y2.d.t.t.n, .int .i64 y2.d.t.t.s, .slice y2.d.ka y2.d.n y2.d.kc, .slice y3.a y3.len y3.cap, .slice g4 y4.length c4, .slice (some ⟨g5, 0, none⟩) d.n d.n] 0 W5).mono (by omega)) HM2.out))
    have HM1f : KRow w.heap.size (W5.setCells (w.heap.size + 1) 0 [.int .i64 d.k, .slice (some ⟨g1, 0, none⟩) d.pn d.pn, .int .i64 y2.d.k, .int .i64 y2.d.op, .slice y2.d.v.a y2.d.v.len y2.d.v.cap, .int .i64 y2.d.t.t.k, .slice y2.d.t.t.a y2.d.t.t.len y2.d.t.t.cap, .int .i64 y2.d.t.t.n, .int .i64 y2.d.t.t.s, .slice y2.d.ka y2.d.n y2.d.kc, .slice y3.a y3.len y3.cap, .slice g4 y4.length c4, .slice (some ⟨g5, 0, none⟩) d.n d.n]) 15 (some ⟨g1, 0, none⟩) d.pn (fun i => (k1 i).cells) := ((HM1.out.upper ((upper_sets (w.heap.size + 1) [.int .i64 d.k, .slice (some ⟨g1, 0, none⟩) d.pn d.pn, .int .i64 y2.d.k, .int .i64 y2.d.op, .slice y2.d.v.a y2.d.v.len y2.d.v.cap, .int .i64 y2.d.t.t.k, .slice y2.d.t.t.a y2.d.t.t.len y2.d.t.t.cap, .int .i64 y2.d.t.t.n, .int .i64 y2.d.t.t.s, .slice y2.d.ka y2.d.n y2.d.kc, .slice y3.a y3.len y3.cap, .slice g4 y4.length c4, .slice (some ⟨g5, 0, none⟩) d.n d.n] 0 W5).mono (by omega))).base (by omega))
    have HL1f : ∀ i, i < d.pn → (k1 i).lies w.heap.size (W5.setCells (w.heap.size + 1) 0 [.int .i64 d.k, .slice (some ⟨g1, 0, none⟩) d.pn d.pn, .int .i64 y2.d.k, .int .i64 y2.d.op, .slice y2.d.v.a y2.d.v.len y2.d.v.cap, .int .i64 y2.d.t.t.k, .slice y2.d.t.t.a y2.d.t.t.len y2.d.t.t.cap, .int .i64 y2.d.t.t.n, .int .i64 y2.d.t.t.s, .slice y2.d.ka y2.d.n y2.d.kc, .slice y3.a y3.len y3.cap, .slice g4 y4.length c4, .slice (some ⟨g5, 0, none⟩) d.n d.n]) := (fun i hi => ((fun i hi => (HL1.out i hi).upper ((upper_sets (w.heap.size + 1) [.int .i64 d.k, .slice (some ⟨g1, 0, none⟩) d.pn d.pn, .int .i64 y2.d.k, .int .i64 y2.d.op, .slice y2.d.v.a y2.d.v.len y2.d.v.cap, .int .i64 y2.d.t.t.k, .slice y2.d.t.t.a y2.d.t.t.len y2.d.t.t.cap, .int .i64 y2.d.t.t.n, .int .i64 y2.d.t.t.s, .slice y2.d.ka y2.d.n y2.d.kc, .slice y3.a y3.len y3.cap, .slice g4 y4.length c4, .slice (some ⟨g5, 0, none⟩) d.n d.n] 0 W5).mono (by omega))) i hi).base (by omega))
    have hbf : Below w.heap.size w (W5.setCells (w.heap.size + 1) 0 [.int .i64 d.k, .slice (some ⟨g1, 0, none⟩) d.pn d.pn, .int .i64 y2.d.k, .int .i64 y2.d.op, .slice y2.d.v.a y2.d.v.len y2.d.v.cap, .int .i64 y2.d.t.t.k, .slice y2.d.t.t.a y2.d.t.t.len y2.d.t.t.cap, .int .i64 y2.d.t.t.n, .int .i64 y2.d.t.t.s, .slice y2.d.ka y2.d.n y2.d.kc, .slice y3.a y3.len y3.cap, .slice g4 y4.length c4, .slice (some ⟨g5, 0, none⟩) d.n d.n]) := below_sets _ (by omega) _ _ _ HT.out.bl
    have hl4 : y4.length ≤ 1048576 := by have h := congrArg List.length HE4.out; simp at h; have := HTN.out; omega
    exact ⟨AT.mk ⟨d.k, some ⟨g1, 0, none⟩, d.pn, d.pn, k1, y2, y3, g4, c4, y4, some ⟨g5, 0, none⟩, d.n, d.n⟩ k5, rfl, ⟨HM1f, HL1f, HPN.out, HM2f, HM3f, HM4f, hl4, HN.out, HM5f, HL5f⟩, ⟨rfl, rfl, HE1.out, HE2.out, HE3.out, HE4.out, rfl, HE5.out⟩, hbf⟩
end Go.Proofs.Ytpgbhkkdbkecoaa
