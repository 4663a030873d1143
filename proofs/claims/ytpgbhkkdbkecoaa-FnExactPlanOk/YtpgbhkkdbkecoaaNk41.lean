/- Texts put together: TreZ TrvA -/
import Derived.Test.YtpgbhkkdbkecoaaNk28
/- TreZ -/
namespace Go.Proofs.Ytpgbhkkdbkecoaa
open Go.RowKit Go.Deep
set_option maxRecDepth 100000

theorem bytesEqual_any (x y : SL) (w : World) (hx : BsF 0 w x) (hy : BsF 0 w y) : Calls Try.prog 95 #[.slice x.a x.len x.cap, .slice y.a y.len y.cap] w (Tells (x.b = y.b) w) := by
  have c1 : (convert 23 9 (.slice x.a x.len x.cap)).run Try.prog w = .ok (.string (strOfNums x.b)) w := hx.1.str
  have c2 : (convert 23 9 (.slice y.a y.len y.cap)).run Try.prog w = .ok (.string (strOfNums y.b)) w := hy.1.str
  by_cases h : x.b = y.b
  · have HY : Hid (x.b = y.b) := h
    rw [h] at c1
    clear h hx hy
    go_enter Try.func95, Try.ntmps95
    go_wp2_with fail
    go_ret
    exact Tells.yes HY.out (Below.refl _ _)
  · have HNO : Hid (¬ x.b = y.b) := h
    have hs := str_ne hx.1.byt hy.1.byt h
    have hs0 := str_ne2 hx.1.byt hy.1.byt h
    have hs1 : ((strOfNums x.b).toList == (strOfNums y.b).toList) = false := beq_false_of_ne hs0
    have hs2 : decide (strOfNums x.b = strOfNums y.b) = false := decide_eq_false hs
    clear h hx hy
    go_enter Try.func95, Try.ntmps95
    go_wp2_with fail
    go_ret
    exact Tells.no HNO.out (Below.refl _ _)
theorem hasC_any (x y : SL) (c : Nat) (w : World) (hx : BsF 0 w x) (hy : BsF 0 w y) (hc : w.cell? ⟨c, 0, none⟩ = some (.slice x.a x.len x.cap)) : Calls Try.prog 94 #[.slice y.a y.len y.cap, .pointer (some ⟨c, 0, none⟩)] w (Tells (y.b = x.b) w) := by
  have BE := bytesEqual_any y x w hy hx
  clear hx hy
  obtain ⟨P, hP⟩ : ∃ P : Prop, P = (y.b = x.b) := ⟨_, rfl⟩
  rw [← hP] at BE ⊢
  clear hP
  go_enter Try.func94, Try.ntmps94
  go_wp2_with fail
  refine BE.mono ?_
  rintro e w1 ⟨q, rfl, hq, hb⟩
  have HQ : Hid (q = true ↔ P) := hq
  have HB : Hid (Below w.heap.size w w1) := hb
  clear hq hb BE hc
  go_wp2_with fail
  go_ret
  exact Tells.of HQ.out HB.out
set_option maxHeartbeats 2000000 in
theorem indexV_any (v : Value) (L : List SL) (x : SL) (c B : Nat) (w0 w : World) (h : VL w0 w B v L) (hw : Below w0.heap.size w0 w) (hx : BsF 0 w0 x) (hn : L.length ≤ 1048576) (hcl : c < w.heap.size) (hc : w.cell? ⟨c, 0, none⟩ = some (.slice x.a x.len x.cap)) :
    Calls Try.prog 110 #[v, .func (.func 94) #[] #[.pointer (some ⟨c, 0, none⟩)]] w (IdxAns (¬ InL x.b L) w) := by
  obtain ⟨a, cap, rfl, hf⟩ := h.form
  obtain ⟨n, hnn⟩ : ∃ n, n = L.length := ⟨_, rfl⟩
  have HN : Hid (n = L.length) := hnn
  have HT : Hid (∀ y ∈ L, BsF 0 w0 y) := h.txt
  have HX : Hid (BsF 0 w0 x) := hx
  have HW : Hid (Below w0.heap.size w0 w) := hw
  have HCC : Hid (w.cell? ⟨c, 0, none⟩ = some (.slice x.a x.len x.cap)) := hc
  rw [← hnn] at hn ⊢
  by_cases hL : L = []
  · have HNI : Hid (¬ InL x.b L) := (show ¬ (x.b ∈ L.map SL.b) by rw [hL]; simp)
    have hn0 : n = 0 := by rw [hnn, hL]; rfl
    clear h hw hx hf hnn hL hc HN
    subst hn0
    go_enter Try.func110, Try.ntmps110
    go_wp2_with fail
    go_loopw [8] (fun i wr => i = .int .i64 0 ∧ Hid (Below w.heap.size w wr)) (fun _ _ => 0)
    case atStart => exact ⟨rfl, Below.refl _ _⟩
    case round =>
      obtain ⟨rfl, HB⟩ := hrel
      go_wp2_with fail
      go_ret
      exact IdxAns.of ⟨fun h => absurd h (by decide), fun h => absurd HNI.out h⟩ HB.out
  obtain ⟨g, rfl, _, hg, hcs⟩ := hf.resolve_left hL
  have HCS : Hid (∀ i x, L[i]? = some x → w.cell? ⟨g, i, none⟩ = some (.slice x.a x.len x.cap)) := hcs
  clear h hw hx hf hnn hL hc hcs
  go_enter Try.func110, Try.ntmps110
  go_wp2_with fail
  go_loopw [8] (fun i wr => ∃ k : Nat, k ≤ n ∧ i = .int .i64 k ∧ Hid (∀ j y, j < k → L[j]? = some y → y.b ≠ x.b) ∧ Hid (Below w.heap.size w wr)) (fun i _ => n - (intOf i).toNat)
  case atStart => exact ⟨0, Nat.zero_le _, rfl, fun j y hj => absurd hj (Nat.not_lt_zero _), Below.refl _ _⟩
  case round =>
    obtain ⟨k, hk, rfl, HNE, HB⟩ := hrel
    by_cases hlk : k < n
    rotate_left
    · obtain rfl : k = n := by omega
      have hlkz : ¬ (k : Int) < (k : Int) := by omega
      have HNI : Hid (¬ InL x.b L) := fun hm => by
        obtain ⟨y, hy, e⟩ := List.mem_map.1 hm
        obtain ⟨j, hj, rfl⟩ := List.getElem_of_mem hy
        exact HNE.out j _ (by rw [HN.out]; exact hj) (List.getElem?_eq_getElem hj) e
      go_wp2_with fail
      go_ret
      exact IdxAns.of ⟨fun h => absurd h (by decide), fun h => absurd HNI.out h⟩ HB.out
    have hlkz : (k : Int) < (n : Int) := by omega
    obtain ⟨y, hy⟩ : ∃ y, L[k]? = some y := ⟨_, List.getElem?_eq_getElem (by rw [← HN.out]; exact hlk)⟩
    have HY : Hid (L[k]? = some y) := hy
    have HTY : Hid (BsF 0 w0 y) := HT.out y (List.mem_of_getElem? hy)
    have y0 : wr.cell? ⟨g, k, none⟩ = some (.slice y.a y.len y.cap) := (HB.out.cell (p := ⟨g, k, none⟩) hg).trans (HCS.out k y hy)
    clear hy
    go_wp2_with fail
    refine (hasC_any x y c wr (HX.out.upper (Upper.of_below (bl_trans HW.out HB.out))) (HTY.out.upper (Upper.of_below (bl_trans HW.out HB.out))) ((HB.out.cell (p := ⟨c, 0, none⟩) hcl).trans HCC.out)).mono ?_
    rintro e w1 ⟨q1, rfl, hq1, hb1⟩
    have HB1 : Hid (Below w.heap.size w w1) := bl_trans HB.out hb1
    clear hb1 HB y0
    cases q1 with
    | true =>
      have HIN : Hid (InL x.b L) := (show x.b ∈ L.map SL.b by rw [← hq1.1 rfl]; exact List.mem_map_of_mem (f := SL.b) (List.mem_of_getElem? HY.out))
      clear hq1
      go_wp2_with fail
      go_ret
      exact IdxAns.of ⟨fun _ h => h HIN.out, fun _ => by omega⟩ HB1.out
    | false =>
      have HYX : Hid (y.b ≠ x.b) := fun hh => by have h := hq1.2 hh; cases h
      clear hq1
      go_wp2_with fail
      go_roundw
      case rel =>
        refine ⟨k + 1, by omega, by go_num, fun j z hj hz => ?_, HB1⟩
        by_cases e : j = k
        · subst e
          rw [HY.out] at hz
          cases hz
          exact HYX.out
        · exact HNE.out j z (by omega) hz
      case measure => simp [intOf]; omega
theorem containsV_any (v : Value) (L : List SL) (x : SL) (c B : Nat) (w0 w : World) (h : VL w0 w B v L) (hw : Below w0.heap.size w0 w) (hx : BsF 0 w0 x) (hn : L.length ≤ 1048576) (hcl : c < w.heap.size) (hc : w.cell? ⟨c, 0, none⟩ = some (.slice x.a x.len x.cap)) :
    Calls Try.prog 93 #[v, .func (.func 94) #[] #[.pointer (some ⟨c, 0, none⟩)]] w (Tells (InL x.b L) w) := by
  have IX := indexV_any v L x c B w0 w h hw hx hn hcl hc
  obtain ⟨P, hP⟩ : ∃ P : Prop, P = InL x.b L := ⟨_, rfl⟩
  rw [← hP] at IX ⊢
  obtain ⟨a, cap, rfl, _⟩ := h.form
  clear hP h hw hx hn hcl hc
  go_enter Try.func93, Try.ntmps93
  go_wp2_with fail
  refine IX.mono ?_
  rintro e w1 ⟨v, rfl, hv, hb⟩
  have HV : Hid (0 ≤ v ↔ ¬ ¬ P) := hv
  have HB : Hid (Below w.heap.size w w1) := hb
  clear IX hv hb
  go_wp2_with fail
  go_ret
  refine Tells.of ?_ HB.out
  rw [← Classical.not_not (a := P), ← HV.out]
  simp
theorem has_any (v : Value) (L : List SL) (x : SL) (B : Nat) (w0 w : World) (h : VL w0 w B v L) (hw : Below w0.heap.size w0 w) (hx : BsF 0 w0 x) (hn : L.length ≤ 1048576) :
    Calls Try.prog 80 #[v, .slice x.a x.len x.cap] w (Tells (InL x.b L) w) := by
  have hsz : w0.heap.size ≤ w.heap.size := hw.size
  have HC : Hid (∀ o, (w.alloc o).cell? ⟨w.heap.size, 0, none⟩ = some (.slice x.a x.len x.cap) → Calls Try.prog 93 #[v, .func (.func 94) #[] #[.pointer (some ⟨w.heap.size, 0, none⟩)]] (w.alloc o) (Tells (InL x.b L) (w.alloc o))) := fun o ho => containsV_any v L x w.heap.size B w0 (w.alloc o) (h.below (bl_a o)) (hw.trans ((bl_a o).mono hsz)) hx hn (by simp) ho
  obtain ⟨P, hP⟩ : ∃ P : Prop, P = InL x.b L := ⟨_, rfl⟩
  rw [← hP] at HC ⊢
  obtain ⟨a, cap, rfl, _⟩ := h.form
  clear hP h hw hx hn
  go_enter Try.func80, Try.ntmps80
  go_wp2_with fail
  refine (HC.out _ (by simp [go_sem])).mono ?_
  rintro e w1 ⟨q, rfl, hq, hb⟩
  have HQ : Hid (q = true ↔ P) := hq
  have HB : Hid (Below w.heap.size w w1) := bl_trans (bl_a _) hb
  clear HC hq hb
  go_wp2_with fail
  go_ret
  exact Tells.of HQ.out HB.out
end Go.Proofs.Ytpgbhkkdbkecoaa

/- TrvA -/
namespace Go.Proofs.Ytpgbhkkdbkecoaa
open Go.RowKit Go.Deep
set_option maxRecDepth 100000

/-- What adding to a list in the box g leaves. -/
structure KQ (g : Nat) (v : Value) (w : World) (v' : Value) (w' : World) : Prop where
  os : w'.os = w.os
  tape : w'.tape = w.tape
  output : w'.output = w.output
  size : w.heap.size ≤ w'.heap.size
  block : ∀ b, b < w.heap.size → b ≠ g → v.ownBlock ≠ some b → w'.heap[b]? = w.heap[b]?
  blk : ∀ c, v'.ownBlock = some c → v.ownBlock = some c ∨ w.heap.size ≤ c
theorem KQ.of_kp {g : Nat} {v v' : Value} {w w' : World} (h : Kp v w v' w') : KQ g v w v' w' := ⟨h.os, h.tape, h.output, h.size, fun b hb _ hn => h.block b hb hn, h.blk⟩
theorem KQ.of_below {g : Nat} {v : Value} {w w' : World} (h : Below w.heap.size w w') : KQ g v w v w' := .of_kp (.of_below h)
theorem KQ.trans {g : Nat} {v v' v'' : Value} {w w' w'' : World} (h : KQ g v w v' w') (k : KQ g v' w' v'' w'') : KQ g v w v'' w'' :=
  ⟨k.os.trans h.os, k.tape.trans h.tape, k.output.trans h.output, Nat.le_trans h.size k.size, fun b hb hg hn => (k.block b (Nat.lt_of_lt_of_le hb h.size) hg (fun e => by
    rcases h.blk b e with e' | e'
    · exact hn e'
    · omega)).trans (h.block b hb hg hn), fun c hc => by
    rcases k.blk c hc with e | e
    · exact h.blk c e
    · exact .inr (Nat.le_trans h.size e)⟩
theorem KQ.past {g : Nat} {v v' : Value} {w w' w'' : World} (h : KQ g v w v' w') (k : Past g w' w'') : KQ g v w v' w'' :=
  ⟨k.os.trans h.os, k.tape.trans h.tape, k.output.trans h.output, Nat.le_trans h.size k.size, fun b hb hg hn => (k.block b (Nat.lt_of_lt_of_le hb h.size) hg).trans (h.block b hb hg hn), h.blk⟩
theorem KQ.box {g : Nat} {v v' : Value} {w w' : World} {b : Nat} {L : List Value} (h : KQ g v w v' w') (hx : Box w b L) (hg : b ≠ g) (hn : v.ownBlock ≠ some b) : Box w' b L := ⟨Nat.lt_of_lt_of_le hx.1 h.size, fun c u hu => (World.cell?_of_block (w := w) (a := ⟨b, c, none⟩) (h.block b hx.1 hg hn)).trans (hx.2 c u hu)⟩
theorem KQ.low {g : Nat} {v v' : Value} {w w' : World} {B : Nat} (h : KQ g v w v' w') (hv : ∀ c, v.ownBlock = some c → B ≤ c) (hg : B ≤ g) (hB : B ≤ w.heap.size) : Below B w w' := ⟨h.os, h.tape, h.output, h.size, fun b hb => h.block b (by omega) (by omega) (fun e => by have := hv b e; omega)⟩
/-- A list of variables in the box g. -/
structure VQ (w0 w : World) (B g : Nat) (v : Value) (L : List SL) : Prop where
  cell : w.cell? ⟨g, 0, none⟩ = some v
  fr : w.frozen? ⟨g, 0, none⟩ = false
  lt : g < w.heap.size
  vl : VL w0 w B v L
  ne : v.ownBlock ≠ some g
  lo : w0.heap.size ≤ B
  gl : w0.heap.size ≤ g
  bl : Below w0.heap.size w0 w
  sz : B ≤ w.heap.size
theorem VQ.below {w0 w w' : World} {B g : Nat} {v : Value} {L : List SL} (h : VQ w0 w B g v L) (hb : Below w.heap.size w w') : VQ w0 w' B g v L :=
  ⟨(hb.cell (p := ⟨g, 0, none⟩) h.lt).trans h.cell, (hb.frozen (p := ⟨g, 0, none⟩) h.lt).trans h.fr, Nat.lt_of_lt_of_le h.lt hb.size, h.vl.below hb, h.ne, h.lo, h.gl, h.bl.trans (hb.mono h.bl.size), Nat.le_trans h.sz hb.size⟩
/-- What adding to a list in the box g does. -/
def AddQ (w0 : World) (B g : Nat) (v : Value) (R : List (List Int)) (w : World) (e : Ending) (w' : World) : Prop := ∃ v' L', e = .returned (.tuple #[]) ∧ VQ w0 w' B g v' L' ∧ L'.map SL.b = R ∧ KQ g v w v' w'
theorem appQ {ops : Array Oper} {rest : List Oper} {o : Oper} {a : Act} {Q : Exit → Act → World → Prop} {w : World} (hgd : o.guard = none) (s x : Operand)
    (ho : o.op = .call { callee := .builtin .append, args := #[s, x], argTypes := #[85, 85] })
    (w0 : World) (B : Nat) (v : Value) (L : List SL) (hs : a.eval s = v) (HO : Hid (VL w0 w B v L)) (y : SL) (hy : BsF 0 w0 y)
    (ad : Addr) (c : Nat) (hx : a.eval x = .slice (some ad) 1 c) (HN : Hid (∀ j u, ([y.v] : List Value)[j]? = some u → w.cell? (ad.add j) = some u)) (hle : L.length ≤ 1048576) (hB : B ≤ w.heap.size)
    (h : ∀ g cap w', Hid (VL w0 w' B (.slice (some ⟨g, 0, none⟩) (L.length + 1) cap) (L ++ [y])) → Hid (Kp v w (.slice (some ⟨g, 0, none⟩) (L.length + 1) cap) w') → wpList Try.prog ops Q rest (a.put o.dst (.slice (some ⟨g, 0, none⟩) (L.length + 1) cap)) w') :
    wpList Try.prog ops Q (o :: rest) a w := by
  obtain ⟨i0, hi0, hzz⟩ := Option.map_eq_some_iff.1 Try.infoB23
  simp only [Prod.mk.injEq] at hzz
  obtain ⟨hi2, hi1, hi3⟩ := hzz
  refine wpList_append_lies _ hgd s x 85 ho B 23 i0 (.slice none 0 0) 1 24 Try.underlying85 hi0 hi2 hi1 hi3 rfl (by omega) v L.length (L.map SL.v) hs HO.out.own ad 1 c [y.v] hx rfl HN.out (fun u hu => by simp only [List.mem_cons, List.not_mem_nil, or_false] at hu; rw [hu]; rfl) (by omega) (by unfold maxLen; omega) (by omega) hB _ rfl ?_
  intro g cap w' hown hgr hat hlt
  refine h g cap w' ⟨?_, fun g' hg' => ?_, fun z hz => ?_⟩ ⟨hgr.os, hgr.tape, hgr.output, hgr.size, fun b hb hn => hgr.block b hb (fun e => hn e.symm), fun g' hg' => ?_⟩
  · rw [List.map_append, List.length_append]
    exact hown
  · have : g = g' := by simpa [Value.ownBlock] using hg'
    subst this
    rcases hown.2 with ⟨hv, _⟩ | ⟨g0, c0, cur, hv, hb, _⟩
    · cases hv
    · cases hv; exact ⟨hb, hlt⟩
  · rcases List.mem_append.1 hz with hz | hz
    · exact HO.out.txt z hz
    · rw [List.mem_singleton.1 hz]
      exact hy
  · have : g = g' := by simpa [Value.ownBlock] using hg'
    subst this
    rcases hat with e | e
    · exact .inl e
    · exact .inr (by rw [e]; exact Nat.le_refl _)
/-- The new list is laid into the box. -/
theorem VQ.put {w0 w w9 : World} {B g : Nat} {v v9 : Value} {L L9 : List SL} (h : VQ w0 w B g v L) (hK : Kp v w v9 w9) (hV : VL w0 w9 B v9 L9) : VQ w0 (w9.setCell ⟨g, 0, none⟩ v9) B g v9 L9 ∧ KQ g v w v9 (w9.setCell ⟨g, 0, none⟩ v9) := by
  have hb := hK.block g h.lt h.ne
  have hc : w9.cell? ⟨g, 0, none⟩ = some v := (World.cell?_of_block (w := w) (a := ⟨g, 0, none⟩) hb).trans h.cell
  have hne : v9.ownBlock ≠ some g := fun e => by
    rcases hK.blk g e with e | e
    · exact h.ne e
    · have := h.lt
      omega
  have hp : Past g w9 (w9.setCell ⟨g, 0, none⟩ v9) := (Past.refl g w9).set 0 _
  have hq : KQ g v w v9 (w9.setCell ⟨g, 0, none⟩ v9) := (KQ.of_kp hK).past hp
  refine ⟨⟨set_same hc, ?_, Nat.lt_of_lt_of_le h.lt hq.size, hV.keep hp.size (fun c hc' => hp.block c (hV.lo c hc').2 (fun e => hne (by rw [← e]; exact hc'))), hne, h.lo, h.gl, ?_, Nat.le_trans h.sz hq.size⟩, hq⟩
  · rw [World.frozen?_setCell]
    exact (World.frozen?_of_block (w := w) (a := ⟨g, 0, none⟩) hb).trans h.fr
  · exact h.bl.trans (hq.low (fun c hc' => Nat.le_trans h.lo (h.vl.lo c hc').1) h.gl h.bl.size)
set_option maxHeartbeats 2000000 in
theorem add_any (v : Value) (L : List SL) (x : SL) (B g : Nat) (w0 w : World) (h : VQ w0 w B g v L) (hx : BsF 0 w0 x) (hn : L.length ≤ 1000000) :
    Calls Try.prog 58 #[.pointer (some ⟨g, 0, none⟩), .slice x.a x.len x.cap] w (AddQ w0 B g v (addV (L.map SL.b) x.b) w) := by
  have HLX : Hid (x.b = [] ↔ x.len = 0) := nil_len hx.1.1
  have HV : Hid (VQ w0 w B g v L) := h
  have HX : Hid (BsF 0 w0 x) := hx
  have HAS := has_any v L x B w0 w h.vl h.bl hx (by omega)
  obtain ⟨a, cap, rfl, _⟩ := h.vl.form
  obtain ⟨n, hnn⟩ : ∃ n, n = L.length := ⟨_, rfl⟩
  have HN : Hid (n = L.length) := hnn
  rw [← hnn] at HAS HV ⊢
  clear h hx hnn
  by_cases h0 : x.len = 0
  · have HR : Hid (addV (L.map SL.b) x.b = L.map SL.b) := (show addV _ _ = _ by unfold addV; rw [if_pos (.inl (HLX.out.2 h0))])
    clear HAS
    go_enter Try.func58, Try.ntmps58
    go_wp2_with fail
    go_end0
    exact ⟨_, L, rfl, HV.out, HR.out.symm, KQ.of_below (Below.refl _ _)⟩
  have h0b : (0 : Int) < (x.len : Int) := by omega
  have h0c : 0 < x.len := by omega
  have H0 : Hid (¬ x.b = []) := fun e => h0 (HLX.out.1 e)
  have c0 := HV.out.cell
  clear h0
  go_enter Try.func58, Try.ntmps58
  go_wp2_with fail
  refine HAS.mono ?_
  rintro e w1 ⟨q, rfl, hq, hb1⟩
  have HB1 : Hid (Below w.heap.size w w1) := hb1
  clear HAS hb1 c0
  cases q with
  | true =>
    have HR : Hid (addV (L.map SL.b) x.b = L.map SL.b) := (show addV _ _ = _ by unfold addV; rw [if_pos (.inr (hq.1 rfl))])
    clear hq
    go_wp2_with fail
    go_end0
    exact ⟨_, L, rfl, HV.out.below HB1.out, HR.out.symm, KQ.of_below HB1.out⟩
  | false =>
    have HR : Hid (addV (L.map SL.b) x.b = (L ++ [x]).map SL.b) := (show addV _ _ = _ by
      unfold addV
      rw [if_neg (fun hh => by
        rcases hh with hh | hh
        · exact H0.out hh
        · have := hq.2 hh
          cases this), List.map_append]
      rfl)
    clear hq
    have HV1 : Hid (VQ w0 w1 B g (.slice a n cap) L) := HV.out.below HB1.out
    have HV2 : Hid (∀ o, VQ w0 (w1.alloc o) B g (.slice a n cap) L) := fun o => HV1.out.below (bl_a o)
    have HO1 : Hid (∀ o, VL w0 (w1.alloc o) B (.slice a n cap) L) := fun o => (HV2.out o).vl
    have c1 := HV1.out.cell
    have HCL : Hid (∀ o v' w9, Kp (.slice a n cap) (w1.alloc o) v' w9 → w9.cell? ⟨g, 0, none⟩ = some (.slice a n cap) ∧ w9.frozen? ⟨g, 0, none⟩ = false) := fun o v' w9 hK => ⟨(World.cell?_of_block (w := w1.alloc o) (a := ⟨g, 0, none⟩) (hK.block g (HV2.out o).lt (HV2.out o).ne)).trans (HV2.out o).cell, (World.frozen?_of_block (w := w1.alloc o) (a := ⟨g, 0, none⟩) (hK.block g (HV2.out o).lt (HV2.out o).ne)).trans (HV2.out o).fr⟩
    have HNW : Hid (∀ j u, ([x.v] : List Value)[j]? = some u → (w1.alloc (.cells #[.slice x.a x.len x.cap] 23)).cell? ((⟨w1.heap.size, 0, none⟩ : Addr).add j) = some u) := by
      intro j u hu
      have h1 : (w1.alloc (.cells #[.slice x.a x.len x.cap] 23)).heap[w1.heap.size]? = some (.cells #[.slice x.a x.len x.cap] 23) := by
        show (w1.heap.push _)[w1.heap.size]? = _
        rw [Array.getElem?_push]
        simp
      exact World.news_of_block h1 j u hu
    have hle1 : L.length ≤ 1048576 := by have := HN.out; omega
    have hB1 : ∀ o, B ≤ (w1.alloc o).heap.size := fun o => (HV2.out o).sz
    go_wp2_with (refine appQ rfl (.tmp 18) (.tmp 20) rfl w0 B (.slice a n cap) L rfl (HO1.out _) x HX.out ⟨w1.heap.size, 0, none⟩ 1 rfl HNW hle1 (hB1 _) ?_; intro g9 k9 w9 HO9 HK9; obtain ⟨cc9, ff9⟩ := HCL.out _ _ _ HK9.out)
    go_end0
    obtain ⟨r1, r2⟩ := (HV2.out _).put HK9.out HO9.out
    exact ⟨_, _, rfl, r1, HR.out.symm, (KQ.of_below (bl_trans HB1.out (bl_a _))).trans r2⟩
end Go.Proofs.Ytpgbhkkdbkecoaa
