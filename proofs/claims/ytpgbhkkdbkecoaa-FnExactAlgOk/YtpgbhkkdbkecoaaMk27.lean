/- Texts put together: TreT TreU TreV -/
import Derived.Test.YtpgbhkkdbkecoaaMk26
/- TreT -/
namespace Go.Proofs.Ytpgbhkkdbkecoaa
open Go.RowKit Go.Deep
set_option maxRecDepth 100000

/-- What IndexFunc answers: -1 exactly if P. -/
def IdxAns (P : Prop) (w : World) (e : Ending) (w' : World) : Prop := ∃ v : Int, e = .returned (.int .i64 v) ∧ (0 ≤ v ↔ ¬ P) ∧ Below w.heap.size w w'
theorem IdxAns.of {P : Prop} {v : Int} {w w' : World} (h : 0 ≤ v ↔ ¬ P) (hb : Below w.heap.size w w') : IdxAns P w (.returned (.int .i64 v)) w' := ⟨v, rfl, h, hb⟩
set_option maxHeartbeats 1000000 in
theorem noPat_any (x : PB) (w : World) (h : x.lies 0 w) : Calls Try.prog 109 #[.agg #[.slice x.s.v.a x.s.v.len x.s.v.cap, .int .i64 x.s.t.t.k, .slice x.s.t.t.a x.s.t.t.len x.s.t.t.cap, .int .i64 x.s.t.t.n, .int .i64 x.s.t.t.s, .slice x.p.v.a x.p.v.len x.p.v.cap, .int .i64 x.p.t.t.k, .slice x.p.t.t.a x.p.t.t.len x.p.t.t.cap, .int .i64 x.p.t.t.n, .int .i64 x.p.t.t.s, .slice x.o.v.a x.o.v.len x.o.v.cap, .int .i64 x.o.t.t.k, .slice x.o.t.t.a x.o.t.t.len x.o.t.t.cap, .int .i64 x.o.t.t.n, .int .i64 x.o.t.t.s]] w (Tells (¬ ptOk x) w) := by
  have HP : Hid (∀ W, Below w.heap.size w W → Calls Try.prog 85 #[.agg #[.slice x.s.v.a x.s.v.len x.s.v.cap, .int .i64 x.s.t.t.k, .slice x.s.t.t.a x.s.t.t.len x.s.t.t.cap, .int .i64 x.s.t.t.n, .int .i64 x.s.t.t.s, .slice x.p.v.a x.p.v.len x.p.v.cap, .int .i64 x.p.t.t.k, .slice x.p.t.t.a x.p.t.t.len x.p.t.t.cap, .int .i64 x.p.t.t.n, .int .i64 x.p.t.t.s, .slice x.o.v.a x.o.v.len x.o.v.cap, .int .i64 x.o.t.t.k, .slice x.o.t.t.a x.o.t.t.len x.o.t.t.cap, .int .i64 x.o.t.t.n, .int .i64 x.o.t.t.s]] W (Tells (ptOk x) W)) := fun W hb => patOk_any x W (h.upper (Upper.of_below hb))
  clear h
  go_enter Try.func109, Try.ntmps109
  go_wp2_with fail
  refine (HP.out _ (bl_a _)).mono ?_
  rintro e w1 ⟨q1, rfl, hq1, hb1⟩
  have HB : Hid (Below w.heap.size w w1) := bl_trans (bl_a _) hb1
  have HE : Hid ((!q1) = true ↔ ¬ ptOk x) := (show ((!q1) = true ↔ _) by
    rw [← hq1]
    cases q1 <;> simp)
  clear hq1 hb1 HP
  go_wp2_with fail
  go_ret
  exact Tells.of HE.out HB.out
set_option maxHeartbeats 4000000 in
theorem indexPat_any (a : Option Addr) (n cap : Nat) (f : Nat → PB) (w : World) (hn : n ≤ 1048576) (hR : KRow 0 w 15 a n (fun i => (f i).cells)) (hk : ∀ i, i < n → (f i).lies 0 w) :
    Calls Try.prog 118 #[.slice a n cap, .func (.func 109) #[] #[]] w (IdxAns (∀ i, i < n → ptOk (f i)) w) := by
  have HNP : Hid (∀ i, i < n → ∀ W, Below w.heap.size w W → Calls Try.prog 109 #[.agg #[.slice (f i).s.v.a (f i).s.v.len (f i).s.v.cap, .int .i64 (f i).s.t.t.k, .slice (f i).s.t.t.a (f i).s.t.t.len (f i).s.t.t.cap, .int .i64 (f i).s.t.t.n, .int .i64 (f i).s.t.t.s, .slice (f i).p.v.a (f i).p.v.len (f i).p.v.cap, .int .i64 (f i).p.t.t.k, .slice (f i).p.t.t.a (f i).p.t.t.len (f i).p.t.t.cap, .int .i64 (f i).p.t.t.n, .int .i64 (f i).p.t.t.s, .slice (f i).o.v.a (f i).o.v.len (f i).o.v.cap, .int .i64 (f i).o.t.t.k, .slice (f i).o.t.t.a (f i).o.t.t.len (f i).o.t.t.cap, .int .i64 (f i).o.t.t.n, .int .i64 (f i).o.t.t.s]] W (Tells (¬ ptOk (f i)) W)) := fun i hi W hb => noPat_any (f i) W ((hk i hi).upper (Upper.of_below hb))
  by_cases hn1 : n = 0
  · subst hn1
    clear hR hk
    go_enter Try.func118, Try.ntmps118
    go_wp2_with fail
    go_loopw [8] (fun i wr => i = .int .i64 0 ∧ Hid (Below w.heap.size w wr)) (fun _ _ => 0)
    case atStart => exact ⟨rfl, Below.refl _ _⟩
    case round =>
      obtain ⟨rfl, HB⟩ := hrel
      go_wp2_with fail
      go_ret
      exact IdxAns.of ⟨fun h => absurd h (by decide), fun h => absurd (fun i hi => absurd hi (Nat.not_lt_zero _)) h⟩ HB.out
  obtain ⟨b, off, rfl, _, hbk, hck⟩ := hR.resolve_left hn1
  have HCK : Hid (∀ i, i < n → ∀ c u, ((f i).cells)[c]? = some u → w.cell? ⟨b, off + i * 15 + c, none⟩ = some u) := hck
  clear hck hR hk hn1
  go_enter Try.func118, Try.ntmps118
  go_wp2_with fail
  go_loopw [8] (fun i wr => ∃ k : Nat, k ≤ n ∧ i = .int .i64 k ∧ Hid (∀ j, j < k → ptOk (f j)) ∧ Hid (Below w.heap.size w wr)) (fun i _ => n - (intOf i).toNat)
  case atStart => exact ⟨0, Nat.zero_le _, rfl, fun j hj => absurd hj (Nat.not_lt_zero _), Below.refl _ _⟩
  case round =>
    obtain ⟨k, hk, rfl, HOK, HB⟩ := hrel
    by_cases hlk : k < n
    rotate_left
    · obtain rfl : k = n := by omega
      have hlkz : ¬ (k : Int) < (k : Int) := by omega
      go_wp2_with fail
      go_ret
      exact IdxAns.of ⟨fun h => absurd h (by decide), fun h => absurd HOK.out h⟩ HB.out
    have hlkz : (k : Int) < (n : Int) := by omega
    have hcx : wr.rangeAt b (off + k * 15) [.slice (f k).s.v.a (f k).s.v.len (f k).s.v.cap, .int .i64 (f k).s.t.t.k, .slice (f k).s.t.t.a (f k).s.t.t.len (f k).s.t.t.cap, .int .i64 (f k).s.t.t.n, .int .i64 (f k).s.t.t.s, .slice (f k).p.v.a (f k).p.v.len (f k).p.v.cap, .int .i64 (f k).p.t.t.k, .slice (f k).p.t.t.a (f k).p.t.t.len (f k).p.t.t.cap, .int .i64 (f k).p.t.t.n, .int .i64 (f k).p.t.t.s, .slice (f k).o.v.a (f k).o.v.len (f k).o.v.cap, .int .i64 (f k).o.t.t.k, .slice (f k).o.t.t.a (f k).o.t.t.len (f k).o.t.t.cap, .int .i64 (f k).o.t.t.n, .int .i64 (f k).o.t.t.s] := fun c u hu => (HB.out.cell (p := ⟨b, off + k * 15 + c, none⟩) hbk).trans (HCK.out k hlk c u hu)
    go_wp2_with (with_reducible refine wpl_at ?_; refine wpList_load_mid rfl 59 _ rfl _ _ rfl [.slice (f k).s.v.a (f k).s.v.len (f k).s.v.cap, .int .i64 (f k).s.t.t.k, .slice (f k).s.t.t.a (f k).s.t.t.len (f k).s.t.t.cap, .int .i64 (f k).s.t.t.n, .int .i64 (f k).s.t.t.s, .slice (f k).p.v.a (f k).p.v.len (f k).p.v.cap, .int .i64 (f k).p.t.t.k, .slice (f k).p.t.t.a (f k).p.t.t.len (f k).p.t.t.cap, .int .i64 (f k).p.t.t.n, .int .i64 (f k).p.t.t.s, .slice (f k).o.v.a (f k).o.v.len (f k).o.v.cap, .int .i64 (f k).o.t.t.k, .slice (f k).o.t.t.a (f k).o.t.t.len (f k).o.t.t.cap, .int .i64 (f k).o.t.t.n, .int .i64 (f k).o.t.t.s] _ hcx Try.underlying59 rfl (by kernel_rfl) ?_; try simp only [Act.put, List.setIfInBounds_toArray, List.set_cons_zero, List.set_cons_succ])
    refine (HNP.out k hlk wr HB.out).mono ?_
    rintro e w1 ⟨q1, rfl, hq1, hb1⟩
    have HB1 : Hid (Below w.heap.size w w1) := bl_trans HB.out hb1
    clear hb1 hcx HB
    cases q1 with
    | true =>
      have HNO : Hid (¬ ptOk (f k)) := hq1.1 rfl
      clear hq1
      go_wp2_with fail
      go_ret
      exact IdxAns.of ⟨fun _ h => HNO.out (h k hlk), fun _ => by omega⟩ HB1.out
    | false =>
      have HYE : Hid (ptOk (f k)) := (show ptOk (f k) from Classical.byContradiction fun hh => by have h := hq1.2 hh; cases h)
      clear hq1
      go_wp2_with fail
      go_roundw
      case rel =>
        refine ⟨k + 1, by omega, by go_num, fun j hj => ?_, HB1⟩
        by_cases e : j = k
        · subst e
          exact HYE.out
        · exact HOK.out j (by omega)
      case measure => simp [intOf]; omega
theorem containsPat_any (a : Option Addr) (n cap : Nat) (f : Nat → PB) (w : World) (hn : n ≤ 1048576) (hR : KRow 0 w 15 a n (fun i => (f i).cells)) (hk : ∀ i, i < n → (f i).lies 0 w) :
    Calls Try.prog 108 #[.slice a n cap, .func (.func 109) #[] #[]] w (Tells (¬ ∀ i, i < n → ptOk (f i)) w) := by
  have IX := indexPat_any a n cap f w hn hR hk
  obtain ⟨P, hP⟩ : ∃ P : Prop, P = (∀ i, i < n → ptOk (f i)) := ⟨_, rfl⟩
  rw [← hP] at IX ⊢
  clear hP hR hk hn
  go_enter Try.func108, Try.ntmps108
  go_wp2_with fail
  refine IX.mono ?_
  rintro e w1 ⟨v, rfl, hv, hb⟩
  have HV : Hid (0 ≤ v ↔ ¬ P) := hv
  have HB : Hid (Below w.heap.size w w1) := hb
  clear IX hv hb
  go_wp2_with fail
  go_ret
  refine Tells.of ?_ HB.out
  rw [← HV.out]
  simp
set_option maxHeartbeats 1000000 in
theorem noTerm_any (x : TB) (w : World) (h : BsF 0 w x.sl ∧ x.t.fits) : Calls Try.prog 103 #[.agg #[.int .i64 x.t.k, .slice x.t.a x.t.len x.t.cap, .int .i64 x.t.n, .int .i64 x.t.s]] w (Tells (¬ x.td.ok = true) w) := by
  have HP : Hid (∀ W, Below w.heap.size w W → Calls Try.prog 99 #[.agg #[.int .i64 x.t.k, .slice x.t.a x.t.len x.t.cap, .int .i64 x.t.n, .int .i64 x.t.s]] W (Tells (x.td.ok = true) W)) := fun W hb => (implTermOk_any x.t.k x.t.n x.t.s x.t.a x.t.len x.t.cap x.b W (h.1.upper (Upper.of_below hb)).1 h.2.1 h.2.2.1 h.2.2.2.1 h.2.2.2.2).mono fun e w' ⟨h1, h2⟩ => ⟨_, h1, Iff.rfl, h2⟩
  clear h
  go_enter Try.func103, Try.ntmps103
  go_wp2_with fail
  refine (HP.out _ (bl_a _)).mono ?_
  rintro e w1 ⟨q1, rfl, hq1, hb1⟩
  have HB : Hid (Below w.heap.size w w1) := bl_trans (bl_a _) hb1
  have HE : Hid ((!q1) = true ↔ ¬ x.td.ok = true) := (show ((!q1) = true ↔ _) by
    rw [← hq1]
    cases q1 <;> simp)
  clear hq1 hb1 HP
  go_wp2_with fail
  go_ret
  exact Tells.of HE.out HB.out
set_option maxHeartbeats 4000000 in
theorem indexTerm_any (a : Option Addr) (n cap : Nat) (f : Nat → TB) (w : World) (hn : n ≤ 1048576) (hR : KRow 0 w 4 a n (fun i => enc4 (f i).t)) (hk : ∀ i, i < n → BsF 0 w (f i).sl ∧ (f i).t.fits) :
    Calls Try.prog 116 #[.slice a n cap, .func (.func 103) #[] #[]] w (IdxAns (∀ i, i < n → (f i).td.ok = true) w) := by
  have HNP : Hid (∀ i, i < n → ∀ W, Below w.heap.size w W → Calls Try.prog 103 #[.agg #[.int .i64 (f i).t.k, .slice (f i).t.a (f i).t.len (f i).t.cap, .int .i64 (f i).t.n, .int .i64 (f i).t.s]] W (Tells (¬ (f i).td.ok = true) W)) := fun i hi W hb => noTerm_any (f i) W (⟨(hk i hi).1.upper (Upper.of_below hb), (hk i hi).2⟩)
  by_cases hn1 : n = 0
  · subst hn1
    clear hR hk
    go_enter Try.func116, Try.ntmps116
    go_wp2_with fail
    go_loopw [8] (fun i wr => i = .int .i64 0 ∧ Hid (Below w.heap.size w wr)) (fun _ _ => 0)
    case atStart => exact ⟨rfl, Below.refl _ _⟩
    case round =>
      obtain ⟨rfl, HB⟩ := hrel
      go_wp2_with fail
      go_ret
      exact IdxAns.of ⟨fun h => absurd h (by decide), fun h => absurd (fun i hi => absurd hi (Nat.not_lt_zero _)) h⟩ HB.out
  obtain ⟨b, off, rfl, _, hbk, hck⟩ := hR.resolve_left hn1
  have HCK : Hid (∀ i, i < n → ∀ c u, (enc4 (f i).t)[c]? = some u → w.cell? ⟨b, off + i * 4 + c, none⟩ = some u) := hck
  clear hck hR hk hn1
  go_enter Try.func116, Try.ntmps116
  go_wp2_with fail
  go_loopw [8] (fun i wr => ∃ k : Nat, k ≤ n ∧ i = .int .i64 k ∧ Hid (∀ j, j < k → (f j).td.ok = true) ∧ Hid (Below w.heap.size w wr)) (fun i _ => n - (intOf i).toNat)
  case atStart => exact ⟨0, Nat.zero_le _, rfl, fun j hj => absurd hj (Nat.not_lt_zero _), Below.refl _ _⟩
  case round =>
    obtain ⟨k, hk, rfl, HOK, HB⟩ := hrel
    by_cases hlk : k < n
    rotate_left
    · obtain rfl : k = n := by omega
      have hlkz : ¬ (k : Int) < (k : Int) := by omega
      go_wp2_with fail
      go_ret
      exact IdxAns.of ⟨fun h => absurd h (by decide), fun h => absurd HOK.out h⟩ HB.out
    have hlkz : (k : Int) < (n : Int) := by omega
    have hcx : wr.rangeAt b (off + k * 4) [.int .i64 (f k).t.k, .slice (f k).t.a (f k).t.len (f k).t.cap, .int .i64 (f k).t.n, .int .i64 (f k).t.s] := fun c u hu => (HB.out.cell (p := ⟨b, off + k * 4 + c, none⟩) hbk).trans (HCK.out k hlk c u hu)
    go_wp2_with (with_reducible refine wpl_at ?_; refine wpList_load_mid rfl 36 _ rfl _ _ rfl [.int .i64 (f k).t.k, .slice (f k).t.a (f k).t.len (f k).t.cap, .int .i64 (f k).t.n, .int .i64 (f k).t.s] _ hcx Try.underlying36 rfl (by kernel_rfl) ?_; try simp only [Act.put, List.setIfInBounds_toArray, List.set_cons_zero, List.set_cons_succ])
    refine (HNP.out k hlk wr HB.out).mono ?_
    rintro e w1 ⟨q1, rfl, hq1, hb1⟩
    have HB1 : Hid (Below w.heap.size w w1) := bl_trans HB.out hb1
    clear hb1 hcx HB
    cases q1 with
    | true =>
      have HNO : Hid (¬ (f k).td.ok = true) := hq1.1 rfl
      clear hq1
      go_wp2_with fail
      go_ret
      exact IdxAns.of ⟨fun _ h => HNO.out (h k hlk), fun _ => by omega⟩ HB1.out
    | false =>
      have HYE : Hid ((f k).td.ok = true) := (show (f k).td.ok = true from Classical.byContradiction fun hh => by have h := hq1.2 hh; cases h)
      clear hq1
      go_wp2_with fail
      go_roundw
      case rel =>
        refine ⟨k + 1, by omega, by go_num, fun j hj => ?_, HB1⟩
        by_cases e : j = k
        · subst e
          exact HYE.out
        · exact HOK.out j (by omega)
      case measure => simp [intOf]; omega
theorem containsTerm_any (a : Option Addr) (n cap : Nat) (f : Nat → TB) (w : World) (hn : n ≤ 1048576) (hR : KRow 0 w 4 a n (fun i => enc4 (f i).t)) (hk : ∀ i, i < n → BsF 0 w (f i).sl ∧ (f i).t.fits) :
    Calls Try.prog 102 #[.slice a n cap, .func (.func 103) #[] #[]] w (Tells (¬ ∀ i, i < n → (f i).td.ok = true) w) := by
  have IX := indexTerm_any a n cap f w hn hR hk
  obtain ⟨P, hP⟩ : ∃ P : Prop, P = (∀ i, i < n → (f i).td.ok = true) := ⟨_, rfl⟩
  rw [← hP] at IX ⊢
  clear hP hR hk hn
  go_enter Try.func102, Try.ntmps102
  go_wp2_with fail
  refine IX.mono ?_
  rintro e w1 ⟨v, rfl, hv, hb⟩
  have HV : Hid (0 ≤ v ↔ ¬ P) := hv
  have HB : Hid (Below w.heap.size w w1) := hb
  clear IX hv hb
  go_wp2_with fail
  go_ret
  refine Tells.of ?_ HB.out
  rw [← HV.out]
  simp
theorem patsOk_any (a : Option Addr) (n cap : Nat) (f : Nat → PB) (w : World) (hn : n ≤ 1048576) (hR : KRow 0 w 15 a n (fun i => (f i).cells)) (hk : ∀ i, i < n → (f i).lies 0 w) :
    Calls Try.prog 91 #[.slice a n cap] w (Tells (n ≤ 120 ∧ ∀ i, i < n → ptOk (f i)) w) := by
  have CN := containsPat_any a n cap f w hn hR hk
  obtain ⟨P, hP⟩ : ∃ P : Prop, P = (∀ i, i < n → ptOk (f i)) := ⟨_, rfl⟩
  rw [← hP] at CN ⊢
  clear hP hR hk hn
  by_cases hl : n ≤ 120
  · have hlz : (n : Int) ≤ 120 := by omega
    have HL : Hid (n ≤ 120) := hl
    clear hl
    go_enter Try.func91, Try.ntmps91
    go_wp2_with fail
    refine CN.mono ?_
    rintro e w1 ⟨q1, rfl, hq1, hb1⟩
    have HB : Hid (Below w.heap.size w w1) := hb1
    have HE : Hid ((!q1) = true ↔ n ≤ 120 ∧ P) := (show ((!q1) = true ↔ _) by
      cases q1 with
      | true => exact ⟨fun h => (by cases h), fun h => absurd h.2 (hq1.1 rfl)⟩
      | false => exact ⟨fun _ => ⟨HL.out, Classical.byContradiction fun hh => by have h := hq1.2 hh; cases h⟩, fun _ => rfl⟩)
    clear hq1 hb1 CN
    go_wp2_with fail
    go_ret
    exact Tells.of HE.out HB.out
  · have hlz : ¬ (n : Int) ≤ 120 := by omega
    have HNO : Hid (¬ (n ≤ 120 ∧ P)) := fun hh => hl hh.1
    clear hl CN
    go_enter Try.func91, Try.ntmps91
    go_wp2_with fail
    go_ret
    exact Tells.no HNO.out (Below.refl _ _)
theorem valuesOk_any (a : Option Addr) (n cap : Nat) (f : Nat → TB) (w : World) (hn : n ≤ 1048576) (hR : KRow 0 w 4 a n (fun i => enc4 (f i).t)) (hk : ∀ i, i < n → BsF 0 w (f i).sl ∧ (f i).t.fits) :
    Calls Try.prog 87 #[.slice a n cap] w (Tells (n ≤ 8 ∧ ∀ i, i < n → (f i).td.ok = true) w) := by
  have CN := containsTerm_any a n cap f w hn hR hk
  obtain ⟨P, hP⟩ : ∃ P : Prop, P = (∀ i, i < n → (f i).td.ok = true) := ⟨_, rfl⟩
  rw [← hP] at CN ⊢
  clear hP hR hk hn
  by_cases hl : n ≤ 8
  · have hlz : (n : Int) ≤ 8 := by omega
    have HL : Hid (n ≤ 8) := hl
    clear hl
    go_enter Try.func87, Try.ntmps87
    go_wp2_with fail
    refine CN.mono ?_
    rintro e w1 ⟨q1, rfl, hq1, hb1⟩
    have HB : Hid (Below w.heap.size w w1) := hb1
    have HE : Hid ((!q1) = true ↔ n ≤ 8 ∧ P) := (show ((!q1) = true ↔ _) by
      cases q1 with
      | true => exact ⟨fun h => (by cases h), fun h => absurd h.2 (hq1.1 rfl)⟩
      | false => exact ⟨fun _ => ⟨HL.out, Classical.byContradiction fun hh => by have h := hq1.2 hh; cases h⟩, fun _ => rfl⟩)
    clear hq1 hb1 CN
    go_wp2_with fail
    go_ret
    exact Tells.of HE.out HB.out
  · have hlz : ¬ (n : Int) ≤ 8 := by omega
    have HNO : Hid (¬ (n ≤ 8 ∧ P)) := fun hh => hl hh.1
    clear hl CN
    go_enter Try.func87, Try.ntmps87
    go_wp2_with fail
    go_ret
    exact Tells.no HNO.out (Below.refl _ _)
end Go.Proofs.Ytpgbhkkdbkecoaa

/- TreU -/
namespace Go.Proofs.Ytpgbhkkdbkecoaa
open Go.RowKit Go.Deep
set_option maxRecDepth 100000

def pKids (k : Int) : Int := if k = 1 ∨ k = 2 ∨ k = 3 ∨ k = 4 then 2 else if k = 5 ∨ k = 6 then 1 else 0
theorem algKidCount_any (k : Int) (w : World) : Calls Try.prog 90 #[.int .i64 k] w fun e w' => e = .returned (.int .i64 (pKids k)) ∧ w' = w := by
  go_enter Try.func90, Try.ntmps90
  go_wp2
  all_goals go_ret
  all_goals refine ⟨?_, rfl⟩
  all_goals (unfold pKids; simp_all)
/-- An operation that has nothing but its kind and its Kids. -/
def BareA (d : AN) : Prop := d.pn = 0 ∧ zeroE d.e ∧ d.v.b = [] ∧ d.tb = []
theorem BareA.mk {d : AN} (h1 : d.pn = 0) (h2 : zeroE d.e) (h3 : d.v.b = []) (h4 : d.tb = []) : BareA d := And.intro h1 (And.intro h2 (And.intro h3 h4))
def ET0 : ET := .mk ⟨0, 0, ⟨none, 0, 0, []⟩, ⟨⟨0, none, 0, 0, 0, 0⟩, []⟩, none, 0, 0⟩ (fun _ => .nil)
theorem ET0_lies (w : World) : ET0.lies 0 w := ⟨bs_nil w, bs_nil w, ⟨by decide, by decide, by decide, by decide⟩, Nat.zero_le _, .inl rfl, fun i hi => absurd hi (Nat.not_lt_zero _)⟩
theorem ET0_zero : zeroE ET0 := ⟨rfl, rfl, rfl, zeroT0, rfl⟩
set_option maxHeartbeats 1000000 in
theorem isBareA_any (d : AN) (w : World) (he : d.e.lies 0 w) (hv : BsF 0 w d.v) : Calls Try.prog 92 #[.agg #[.int .i64 d.k, .slice d.pa d.pn d.pc, .int .i64 d.e.d.k, .int .i64 d.e.d.op, .slice d.e.d.v.a d.e.d.v.len d.e.d.v.cap, .int .i64 d.e.d.t.t.k, .slice d.e.d.t.t.a d.e.d.t.t.len d.e.d.t.t.cap, .int .i64 d.e.d.t.t.n, .int .i64 d.e.d.t.t.s, .slice d.e.d.ka d.e.d.n d.e.d.kc, .slice d.v.a d.v.len d.v.cap, .slice d.ta d.tb.length d.tc, .slice d.ka d.n d.kc]] w (Tells (BareA d) w) := by
  have HL : Hid (d.v.b = [] ↔ d.v.len = 0) := nil_len hv.1.1
  have HZ : Hid (∀ W, Below w.heap.size w W → Calls Try.prog 105 #[.agg #[.int .i64 d.e.d.k, .int .i64 d.e.d.op, .slice d.e.d.v.a d.e.d.v.len d.e.d.v.cap, .int .i64 d.e.d.t.t.k, .slice d.e.d.t.t.a d.e.d.t.t.len d.e.d.t.t.cap, .int .i64 d.e.d.t.t.n, .int .i64 d.e.d.t.t.s, .slice d.e.d.ka d.e.d.n d.e.d.kc]] W (Tells (zeroE d.e) W)) := fun W hb => isZeroE_any d.e W (ET.lies.upper (Upper.of_below hb) he)
  obtain ⟨P, hP⟩ : ∃ P, P = BareA d := ⟨_, rfl⟩
  have HP : Hid (P ↔ (d.pn = 0 ∧ zeroE d.e ∧ d.v.b = [] ∧ d.tb = [])) := (show (P ↔ _) by rw [hP]; exact Iff.rfl)
  rw [← hP]
  obtain ⟨nt, hnt⟩ : ∃ nt, nt = d.tb.length := ⟨_, rfl⟩
  rw [← hnt]
  have HT : Hid (d.tb = [] ↔ nt = 0) := (show (_ ↔ _) by rw [hnt]; exact tb_nil)
  clear he hv hP hnt
  by_cases h1 : d.pn = 0
  rotate_left
  · go_enter Try.func92, Try.ntmps92
    go_wp2
    go_ret
    exact Tells.no (fun hp => h1 (HP.out.1 hp).1) (bl_a _)
  have H1 : Hid (d.pn = 0) := h1
  go_enter Try.func92, Try.ntmps92
  go_wp2_with fail
  refine (HZ.out _ (bl_a _)).mono ?_
  rintro e w1 ⟨q1, rfl, hq1, hb1⟩
  have HB : Hid (Below w.heap.size w w1) := bl_trans (bl_a _) hb1
  have HX : Hid (w1.cell? ⟨w.heap.size, 10, none⟩ = some (.slice d.v.a d.v.len d.v.cap) ∧ w1.cell? ⟨w.heap.size, 11, none⟩ = some (.slice d.ta nt d.tc)) := ⟨(hb1.cell (p := ⟨w.heap.size, 10, none⟩) (by simp)).trans (by simp [go_sem]), (hb1.cell (p := ⟨w.heap.size, 11, none⟩) (by simp)).trans (by simp [go_sem])⟩
  clear hb1 h1 HZ
  cases q1 with
  | false =>
    have HNO : Hid (¬ P) := fun hh => by have h := hq1.2 (HP.out.1 hh).2.1; cases h
    clear hq1
    go_wp2_with fail
    go_ret
    exact Tells.no HNO.out HB.out
  | true =>
    have HE : Hid (zeroE d.e) := hq1.1 rfl
    clear hq1
    obtain ⟨x10, x11⟩ := HX.out
    by_cases h2 : d.v.len = 0
    rotate_left
    · go_wp2
      go_ret
      exact Tells.no (fun hp => h2 (HL.out.1 (HP.out.1 hp).2.2.1)) HB.out
    by_cases h3 : nt = 0
    rotate_left
    · go_wp2
      go_ret
      refine Tells.of ⟨fun h => ?_, fun hp => absurd (HT.out.1 (HP.out.1 hp).2.2.2) h3⟩ HB.out
      exfalso
      simp at h
      omega
    have HY : Hid P := HP.out.2 ⟨H1.out, HE.out, HL.out.2 h2, HT.out.2 h3⟩
    go_wp2
    go_ret
    exact Tells.yes HY.out HB.out
theorem hasExpr_any (d : AN) (w : World) : Calls Try.prog 79 #[.agg #[.int .i64 d.k, .slice d.pa d.pn d.pc, .int .i64 d.e.d.k, .int .i64 d.e.d.op, .slice d.e.d.v.a d.e.d.v.len d.e.d.v.cap, .int .i64 d.e.d.t.t.k, .slice d.e.d.t.t.a d.e.d.t.t.len d.e.d.t.t.cap, .int .i64 d.e.d.t.t.n, .int .i64 d.e.d.t.t.s, .slice d.e.d.ka d.e.d.n d.e.d.kc, .slice d.v.a d.v.len d.v.cap, .slice d.ta d.tb.length d.tc, .slice d.ka d.n d.kc]] w (Tells (hasE d.k) w) := by
  obtain ⟨P, hP⟩ : ∃ P, P = hasE d.k := ⟨_, rfl⟩
  have HP : Hid (P ↔ (d.k = 2 ∨ d.k = 5 ∨ d.k = 6)) := (show (P ↔ _) by rw [hP]; exact Iff.rfl)
  rw [← hP]
  clear hP
  by_cases h2 : d.k = 2
  · have HY : Hid P := HP.out.2 (by omega)
    go_enter Try.func79, Try.ntmps79
    go_wp2
    go_ret
    exact Tells.yes HY.out (bl_a _)
  by_cases h5 : d.k = 5
  · have HY : Hid P := HP.out.2 (by omega)
    go_enter Try.func79, Try.ntmps79
    go_wp2
    go_ret
    exact Tells.yes HY.out (bl_a _)
  by_cases h6 : d.k = 6
  · have HY : Hid P := HP.out.2 (by omega)
    go_enter Try.func79, Try.ntmps79
    go_wp2
    go_ret
    exact Tells.yes HY.out (bl_a _)
  have HN : Hid (¬ P) := fun hh => by have := HP.out.1 hh; omega
  go_enter Try.func79, Try.ntmps79
  go_wp2
  go_ret
  refine Tells.of ⟨fun h => ?_, fun hp => absurd hp HN.out⟩ (bl_a _)
  exfalso
  simp at h
  omega
end Go.Proofs.Ytpgbhkkdbkecoaa

/- TreV -/
namespace Go.Proofs.Ytpgbhkkdbkecoaa
open Go.RowKit Go.Deep
set_option maxRecDepth 100000

/-- What an operation's own cells must be, its expression aside. -/
structure HasA (d : AN) : Prop where
  k0 : 0 ≤ d.k
  k7 : d.k ≤ 7
  n : d.n = kidsA d.k
  p0 : d.k ≠ 0 → d.pn = 0
  pn : d.pn ≤ 120
  t0 : d.k ≠ 7 → d.tb = []
  tn : d.tb.length ≤ 8
  e0 : ¬ hasE d.k → zeroE d.e
  v1 : hasV d.k → nameOk d.v.b = true
  v0 : ¬ hasV d.k → d.v.b = []
  pt : ∀ i, i < d.pn → ptOk (d.pat i)
  tm : ∀ x ∈ d.tb, x.td.ok = true
theorem HasA.node {d : AN} : NodeA d ↔ HasA d ∧ (hasE d.k → eOk 120 d.e 1) :=
  ⟨fun h => ⟨⟨h.k0, h.k7, h.n, h.p0, h.pn, h.t0, h.tn, h.e0, h.v1, h.v0, h.pt, h.tm⟩, h.e1⟩, fun h => ⟨h.1.k0, h.1.k7, h.1.n, h.1.p0, h.1.pn, h.1.t0, h.1.tn, h.2, h.1.e0, h.1.v1, h.1.v0, h.1.pt, h.1.tm⟩⟩
theorem tb_all {l : List TB} : (∀ i, i < l.length → (tbG l i).td.ok = true) ↔ ∀ x ∈ l, x.td.ok = true := by
  constructor
  · intro h x hx
    obtain ⟨i, hi, rfl⟩ := List.getElem_of_mem hx
    have := h i hi
    rwa [(tbG_at hi).1] at this
  · intro h i hi
    rw [(tbG_at hi).1]
    exact h _ (tbG_at hi).2
theorem tb_lies {w : World} {a : Option Addr} {l : List TB} (h : TRowF 0 w a l) : ∀ i, i < l.length → BsF 0 w (tbG l i).sl ∧ (tbG l i).t.fits := fun i hi => by
  rw [(tbG_at hi).1]
  exact h.2.2 _ (tbG_at hi).2
end Go.Proofs.Ytpgbhkkdbkecoaa
