import Derived.Test.YtoloadogihbdeaaGreatMk13
namespace Go.Proofs.YtoloadogihbdeaaGreat
open Go.RowKit Go.Deep
set_option maxHeartbeats 40000000
set_option maxRecDepth 100000
def hasE (k : Int) : Prop := k = 2 ∨ k = 5 ∨ k = 6
def hasV (k : Int) : Prop := k = 6 ∨ k = 7
theorem tb_nil {l : List TB} : l = [] ↔ l.length = 0 := List.length_eq_zero_iff.symm
def SL.v (x : SL) : Value := .slice x.a x.len x.cap
structure VL (w0 w : World) (B : Nat) (v : Value) (L : List SL) : Prop where
 own : w.ownsRow B 23 1 v L.length (L.map SL.v)
 lo : ∀ g, v.ownBlock = some g → B ≤ g ∧ g < w.heap.size
 txt : ∀ x ∈ L, BsF 0 w0 x
theorem VL.nil (w0 w : World) (B : Nat) : VL w0 w B (.slice none 0 0) [] := ⟨World.ownsRow_nil _ _ _ _, fun g h => (by cases h), fun x hx => (by cases hx)⟩
theorem VL.keep {w0 w w' : World} {B : Nat} {v : Value} {L : List SL} (h : VL w0 w B v L) (hs : w.heap.size ≤ w'.heap.size) (hb : ∀ g, v.ownBlock = some g → w'.heap[g]? = w.heap[g]?) : VL w0 w' B v L := by
 obtain ⟨⟨h1, h2⟩, hl, ht⟩ := h
 refine ⟨⟨h1, ?_⟩, fun c hc => ⟨(hl c hc).1, Nat.lt_of_lt_of_le (hl c hc).2 hs⟩, ht⟩
 rcases h2 with h2 | ⟨g', cap', cur, hv, hB, hh, r⟩
 · exact .inl h2
 refine .inr ⟨g', cap', cur, hv, hB, ?_, r⟩
 rw [hb g' (by rw [hv]; rfl)]
 exact hh
theorem VL.below {w0 w w' : World} {B : Nat} {v : Value} {L : List SL} (h : VL w0 w B v L) (hb : Bl w w') : VL w0 w' B v L := h.keep hb.size fun g hg => hb.block g (h.lo g hg).2
theorem VL.form {w0 w : World} {B : Nat} {v : Value} {L : List SL} (h : VL w0 w B v L) : ∃ a cap, v = .slice a L.length cap ∧ (L = [] ∨ ∃ g, a = some ⟨g, 0, none⟩ ∧ B ≤ g ∧ g < w.heap.size ∧ ∀ i x, L[i]? = some x → w.cell? ⟨g, i, none⟩ = some (.slice x.a x.len x.cap)) := by
 rcases h.own.2 with ⟨hv, h0⟩ | ⟨g, cap, cur, hv, hB, hh, hle, _, hsz, htk⟩
 · have := List.eq_nil_of_length_eq_zero h0
   subst this
   exact ⟨none, 0, hv, .inl rfl⟩
 refine ⟨some ⟨g, 0, none⟩, cap, hv, .inr ⟨g, rfl, hB, (h.lo g (by rw [hv]; rfl)).2, fun i x hx => ?_⟩⟩
 have hi := (List.getElem?_eq_some_iff.1 hx).1
 have hu : (L.map SL.v)[i]? = some (.slice x.a x.len x.cap) := by rw [List.getElem?_map, hx]; rfl
 rw [← htk, List.getElem?_take, if_pos (by omega)] at hu
 simp only [World.cell?, hh]
 simpa using hu
def InL (b : List Int) (L : List SL) : Prop := b ∈ L.map SL.b
def addV (l : List (List Int)) (v : List Int) : List (List Int) := if v = [] ∨ v ∈ l then l else l ++ [v]
theorem addV_len (l : List (List Int)) (v : List Int) : (addV l v).length ≤ l.length + 1 := by
 unfold addV
 split <;> simp
structure Kp (v : Value) (w : World) (v' : Value) (w' : World) : Prop where
 os : w'.os = w.os
 tape : w'.tape = w.tape
 output : w'.output = w.output
 size : w.heap.size ≤ w'.heap.size
 block : ∀ b, b < w.heap.size → v.ownBlock ≠ some b → w'.heap[b]? = w.heap[b]?
 blk : ∀ g, v'.ownBlock = some g → v.ownBlock = some g ∨ w.heap.size ≤ g
theorem Kp.of_below {v : Value} {w w' : World} (h : Bl w w') : Kp v w v w' := ⟨h.os, h.tape, h.output, h.size, fun b hb _ => h.block b hb, fun _ hg => .inl hg⟩
theorem Kp.trans {v v' v'' : Value} {w w' w'' : World} (h : Kp v w v' w') (k : Kp v' w' v'' w'') : Kp v w v'' w'' :=
 ⟨k.os.trans h.os, k.tape.trans h.tape, k.output.trans h.output, Nat.le_trans h.size k.size, fun b hb hn => (k.block b (Nat.lt_of_lt_of_le hb h.size) (fun e => by
  rcases h.blk b e with e' | e'
  · exact hn e'
  · omega)).trans (h.block b hb hn), fun g hg => by
  rcases k.blk g hg with e | e
  · exact h.blk g e
  exact .inr (Nat.le_trans h.size e)⟩
theorem Kp.box {v v' : Value} {w w' : World} {b : Nat} {L : List Value} (h : Kp v w v' w') (hx : Box w b L) (hn : v.ownBlock ≠ some b) : Box w' b L := ⟨Nat.lt_of_lt_of_le hx.1 h.size, fun c u hu => (World.cell?_of_block (w := w) (a := ⟨b, c, none⟩) (h.block b hx.1 hn)).trans (hx.2 c u hu)⟩
theorem Kp.low {v v' : Value} {w w' : World} {B : Nat} (h : Kp v w v' w') (hv : ∀ g, v.ownBlock = some g → B ≤ g) (hB : B ≤ w.heap.size) : Below B w w' := ⟨h.os, h.tape, h.output, h.size, fun b hb => h.block b (by omega) (fun e => by have := hv b e; omega)⟩
theorem Kp.pre {v v' : Value} {w w1 w' : World} (h : Bl w w1) (k : Kp v w1 v' w') : Kp v w v' w' := (Kp.of_below h).trans k
def AddAns (w0 : World) (B : Nat) (v : Value) (R : List (List Int)) (w : World) (e : Ending) (w' : World) : Prop := ∃ v' L', e = .returned v' ∧ VL w0 w' B v' L' ∧ L'.map SL.b = R ∧ Kp v w v' w'
theorem str_ne {a b : List Int} (ha : Byt a) (hb : Byt b) (h : a ≠ b) : strOfNums a ≠ strOfNums b := fun e => h (by rw [← numsOf_nums ha, ← numsOf_nums hb, e])
theorem str_ne2 {a b : List Int} (ha : Byt a) (hb : Byt b) (h : a ≠ b) : (strOfNums a).toList ≠ (strOfNums b).toList := fun e => h (by
 rw [Lib.strOfNums_toList, Lib.strOfNums_toList] at e
 rw [← numsOf_nums ha, ← numsOf_nums hb]
 show (a.map fun n => UInt8.ofNat n.toNat).map _ = (b.map fun n => UInt8.ofNat n.toNat).map _
 exact congrArg _ e)
theorem l4has_any (v : Value) (L : List SL) (x : SL) (B : Nat) (w0 w : World) (h : VL w0 w B v L) (hw : Bl w0 w) (hx : BsF 0 w0 x) (hn : L.length ≤ 1048576) :
 Calls Tryz.prog 138 #[v, .slice x.a x.len x.cap] w (Tells (InL x.b L) w) := by
 obtain ⟨a, cap, rfl, hf⟩ := h.form
 obtain ⟨n, hnn⟩ : ∃ n, n = L.length := ⟨_, rfl⟩
 have HN := iH hnn
 have HT := iH h.txt
 have HX := iH hx
 have HW := iH hw
 have HG := iH hf
 rw [← hnn] at hn ⊢
 clear h hw hx hf hnn
 go_in
 go_wp2_with fail
 go_loopw [5] (fun i wr => ∃ k : Nat, k ≤ n ∧ i = .int .i64 k ∧ Hd (∀ j y, j < k → L[j]? = some y → y.b ≠ x.b) ∧ Hd (Bl w wr)) (fun i _ => n - (intOf i).toNat)
 case atStart => exact ⟨0, nZ, rfl, fun j y hj => absurd hj nN, Below.refl _ _⟩
 obtain ⟨k, hk, rfl, HNE, HB⟩ := hrel
 by_cases hlk : k < n
 · have hlkz : (k : Int) < (n : Int) := by omega
   obtain ⟨y, hy⟩ : ∃ y, L[k]? = some y := ⟨_, List.getElem?_eq_getElem (by rw [← HN.o]; exact hlk)⟩
   obtain ⟨g, ea, _, hg, hc⟩ := HG.o.resolve_left (fun e => by rw [e] at hy; cases hy)
   have hty := HT.o y (List.mem_of_getElem? hy)
   have HY := iH hy
   have HF : Hd (∀ w', Bl wr w' → w'.cell? ⟨g, k, none⟩ = some (.slice y.a y.len y.cap) ∧ (convert 23 9 (.slice y.a y.len y.cap)).run Tryz.prog w' = .ok (.string (strOfNums y.b)) w' ∧ (convert 23 9 (.slice x.a x.len x.cap)).run Tryz.prog w' = .ok (.string (strOfNums x.b)) w') := fun w' hb => ⟨((bl_trans HB.o hb).cell (p := ⟨g, k, none⟩) hg).trans (hc k y hy), (hty.1.below (bl_trans HW.o (bl_trans HB.o hb))).str, (HX.o.1.below (bl_trans HW.o (bl_trans HB.o hb))).str⟩
   subst ea
   clear hc hy
   by_cases hyx : y.b = x.b
   · have HIN : Hd (InL x.b L) := (show x.b ∈ L.map SL.b by rw [← hyx]; exact List.mem_map_of_mem (f := SL.b) (List.mem_of_getElem? HY.o))
     rw [hyx] at HF
     clear hyx hty
     go_wp2_with fail
     refine whd (fun w' => Bl wr w') ?_ fun hHeld => ?_
     · exact Below.drew brf
     refine tkB 0 12 ?_
     refine tkB 1 13 ?_
     refine tkB 2 14 ?_
     refine tkA 3 15 (v := ?v4) ?y4 ?_
     case y4 => (intro w' hSw; obtain ⟨q1, q2, q3⟩ := HF.o w' hSw; go_simp; (try with_reducible rfl))
     refine tkA 4 16 (v := ?v5) ?y5 ?_
     case y5 => (intro w' hSw; obtain ⟨q1, q2, q3⟩ := HF.o w' hSw; go_simp; (try with_reducible rfl))
     refine tkB 5 17 ?_
     refine tkA 6 18 (v := ?v7) ?y7 ?_
     case y7 => (intro w' hSw; obtain ⟨q1, q2, q3⟩ := HF.o w' hSw; go_simp; (try with_reducible rfl))
     refine tkB 7 19 ?_
     refine wpAnyH_done (by kernel_rfl) ?_ _
     have HBq := iH (Below.drew HB.o)
     clear hHeld HF
     go_wp2
     go_ret
     exact Tells.yes HIN.o HBq.o
   have hs := str_ne hty.1.byt HX.o.1.byt hyx
   have hs0 := str_ne2 hty.1.byt HX.o.1.byt hyx
   have hs1 := beq_false_of_ne hs0
   have hs2 := decide_eq_false hs
   have HYX := iH hyx
   clear hyx hty
   go_wp2_with fail
   refine whd (fun w' => Bl wr w') ?_ fun hHeld => ?_
   · exact Below.drew brf
   refine tkB 0 12 ?_
   refine tkB 1 13 ?_
   refine tkB 2 14 ?_
   refine tkA 3 15 (v := ?v104) ?y104 ?_
   case y104 => (intro w' hSw; obtain ⟨q1, q2, q3⟩ := HF.o w' hSw; go_simp; (try with_reducible rfl))
   refine tkA 4 16 (v := ?v105) ?y105 ?_
   case y105 => (intro w' hSw; obtain ⟨q1, q2, q3⟩ := HF.o w' hSw; go_simp; (try with_reducible rfl))
   refine tkB 5 17 ?_
   refine tkA 6 18 (v := ?v107) ?y107 ?_
   case y107 => (intro w' hSw; obtain ⟨q1, q2, q3⟩ := HF.o w' hSw; go_simp; (try with_reducible rfl))
   refine tkB 7 19 ?_
   refine wpAnyH_done (by kernel_rfl) ?_ _
   have HBq := iH (Below.drew HB.o)
   clear hHeld HF
   clear hs hs0 hs1 hs2
   generalize wr.drew = wq at *
   go_wp2
   go_roundw
   case rel =>
    refine ⟨k + 1, by omega, by go_num, fun j z hj hz => ?_, HBq⟩
    by_cases e : j = k
    · subst e
      rw [HY.o] at hz
      cases hz
      exact HYX.o
    exact HNE.o j z (by omega) hz
   case measure => simp [intOf]; omega
 obtain rfl : k = n := by omega
 have hlkz : ¬ (k : Int) < (k : Int) := by omega
 have HNI : Hd (¬ InL x.b L) := fun hm => by
  obtain ⟨y, hy, e⟩ := List.mem_map.1 hm
  obtain ⟨j, hj, rfl⟩ := List.mem_iff_getElem.1 hy
  exact HNE.o j _ (by rw [HN.o]; exact hj) (List.getElem?_eq_getElem hj) e
 go_wp2
 go_ret
 exact Tells.no HNI.o HB.o
theorem Tryz.infoB23 : (Tryz.prog.info? 23).map (fun i => (i.zero, i.size, i.bytes)) = some (some (.slice none 0 0), 1, 24) := by kernel_rfl
theorem appL {ops : Array Oper} {rest : List Oper} {o : Oper} {a : Act} {Q : Exit → Act → World → Prop} {w : World} (hgd : o.guard = none) (s x : Operand)
 (ho : o.op = .call { callee := .builtin .append, args := #[s, x], argTypes := #[119, 119] })
 (w0 : World) (B : Nat) (v : Value) (L : List SL) (hs : a.eval s = v) (HO : Hd (VL w0 w B v L)) (y : SL) (hy : BsF 0 w0 y)
 (ad : Addr) (c : Nat) (hx : a.eval x = .slice (some ad) 1 c) (HN : Hd (∀ j u, ([y.v] : List Value)[j]? = some u → w.cell? (ad.add j) = some u)) (hle : L.length ≤ 1048576) (hB : B ≤ w.heap.size)
 (h : ∀ g cap w', Hd (VL w0 w' B (.slice (some ⟨g, 0, none⟩) (L.length + 1) cap) (L ++ [y])) → Hd (Kp v w (.slice (some ⟨g, 0, none⟩) (L.length + 1) cap) w') → wpList Tryz.prog ops Q rest (a.put o.dst (.slice (some ⟨g, 0, none⟩) (L.length + 1) cap)) w') :
 wpList Tryz.prog ops Q (o :: rest) a w := by
 obtain ⟨i0, hi0, hzz⟩ := Option.map_eq_some_iff.1 Tryz.infoB23
 simp only [Prod.mk.injEq] at hzz
 obtain ⟨hi2, hi1, hi3⟩ := hzz
 refine wpList_append_lies _ hgd s x 119 ho B 23 i0 (.slice none 0 0) 1 24 Tryz.underlying119 hi0 hi2 hi1 hi3 rfl (by omega) v L.length (L.map SL.v) hs HO.o.own ad 1 c [y.v] hx rfl HN.o (fun u hu => by simp only [List.mem_cons, List.not_mem_nil, or_false] at hu; rw [hu]; rfl) (by omega) (by unfold maxLen; omega) (by omega) hB _ rfl ?_
 intro g cap w' hown hgr hat hlt
 refine h g cap w' ⟨?_, fun g' hg' => ?_, fun z hz => ?_⟩ ⟨hgr.os, hgr.tape, hgr.output, hgr.size, fun b hb hn => hgr.block b hb (fun e => hn e.symm), fun g' hg' => ?_⟩
 · rw [List.map_append, List.length_append]
   exact hown
 · have : g = g' := by simpa [Value.ownBlock] using hg'
   subst this
   rcases hown.2 with ⟨hv, _⟩ | ⟨g0, c0, cur, hv, hb, _⟩
   · cases hv
   cases hv; exact ⟨hb, hlt⟩
 · rcases List.mem_append.1 hz with hz | hz
   · exact HO.o.txt z hz
   rw [List.mem_singleton.1 hz]
   exact hy
 have : g = g' := by simpa [Value.ownBlock] using hg'
 subst this
 rcases hat with e | e
 · exact .inl e
 exact .inr (by rw [e]; exact nR)
theorem l4add_any (v : Value) (L : List SL) (x : SL) (B : Nat) (w0 w : World) (h : VL w0 w B v L) (hw : Bl w0 w) (hx : BsF 0 w0 x) (hn : L.length ≤ 1000000) (hB : B ≤ w.heap.size) :
 Calls Tryz.prog 111 #[v, .slice x.a x.len x.cap] w (AddAns w0 B v (addV (L.map SL.b) x.b) w) := by
 have HLX := iH (nil_len hx.1.1)
 have HV := iH h
 have HX := iH hx
 have HAS := l4has_any v L x B w0 w h hw hx (by omega)
 obtain ⟨a, cap, rfl, _⟩ := h.form
 obtain ⟨n, hnn⟩ : ∃ n, n = L.length := ⟨_, rfl⟩
 have HN := iH hnn
 rw [← hnn] at HAS HV ⊢
 clear h hw hx hnn
 by_cases h0 : x.len = 0
 · have HR : Hd (addV (L.map SL.b) x.b = L.map SL.b) := (show addV _ _ = _ by unfold addV; rw [if_pos (.inl (HLX.o.2 h0))])
   go_in
   go_wp2
   go_ret
   exact ⟨_, L, rfl, HV.o, HR.o.symm, Kp.of_below brf⟩
 have h0b : ((x.len : Int) == 0) = false := by simp; omega
 have H0 : Hd (¬ x.b = []) := fun e => h0 (HLX.o.1 e)
 clear h0
 go_in
 go_wp2_with fail
 refine HAS.mono ?_
 rintro e w1 ⟨q, rfl, hq, hb1⟩
 have HB1 := iH hb1
 clear HAS hb1
 cases q with
 | true =>
  have HR := iH (show addV _ _ = _ by unfold addV; rw [if_pos (.inr (hq.1 rfl))])
  clear hq
  go_wp2
  go_ret
  exact ⟨_, L, rfl, HV.o.below HB1.o, HR.o.symm, Kp.of_below HB1.o⟩
 | false =>
  have HR : Hd (addV (L.map SL.b) x.b = (L ++ [x]).map SL.b) := (show addV _ _ = _ by
   unfold addV
   rw [if_neg (fun hh => by
    rcases hh with hh | hh
    · exact H0.o hh
    have := hq.2 hh
    cases this), List.map_append]
   rfl)
  clear hq
  have HO1 := iH (fun o => (HV.o.below HB1.o).below (bl_a o))
  have HNW : Hd (∀ j u, ([x.v] : List Value)[j]? = some u → (w1.alloc (.cells #[.slice x.a x.len x.cap] 23)).cell? ((⟨w1.heap.size, 0, none⟩ : Addr).add j) = some u) := by
   intro j u hu
   have h1 : (w1.alloc (.cells #[.slice x.a x.len x.cap] 23)).heap[w1.heap.size]? = some (.cells #[.slice x.a x.len x.cap] 23) := by
    show (w1.heap.push _)[w1.heap.size]? = _
    rw [Array.getElem?_push]
    simp
   exact World.news_of_block h1 j u hu
  have hle1 : L.length ≤ 1048576 := by have := HN.o; omega
  have hB1 := fun o => Nat.le_trans hB (Nat.le_trans HB1.o.size (bl_a (w := w1) o).size)
  go_wp2_with (refine appL rfl (.tmp 14) (.tmp 16) rfl w0 B (.slice a n cap) L rfl (HO1.o _) x HX.o ⟨w1.heap.size, 0, none⟩ 1 rfl HNW hle1 (hB1 _) ?_; intro g9 c9 w9 HO9 HK9)
  go_ret
  exact ⟨_, _, rfl, HO9.o, HR.o.symm, Kp.pre (bl_trans HB1.o (bl_a _)) HK9.o⟩
def foldN {α : Type} : Nat → (Nat → α → α) → α → α
 | 0, _, a => a
 | n + 1, f, a => f n (foldN n f a)
def eV : ET → List (List Int) → List (List Int)
 | .nil, l => l
 | .mk d kid, l => foldN d.n (fun i acc => eV (kid i) acc) (addV l d.v.b)
def ptV (p : PB) (l : List (List Int)) : List (List Int) := addV (addV (addV l p.s.v.b) p.p.v.b) p.o.v.b
theorem foldN_congr {α : Type} {n : Nat} {f g : Nat → α → α} (h : ∀ i, i < n → ∀ a, f i a = g i a) (a : α) : foldN n f a = foldN n g a := by
 induction n with
 | zero => rfl
 | succ n ih =>
  show f n (foldN n f a) = g n (foldN n g a)
  rw [ih (fun i hi => h i (by omega)), h n (by omega)]
theorem foldN_len {n : Nat} {f : Nat → List (List Int) → List (List Int)} {c : Nat → Nat} (h : ∀ i l, i < n → (f i l).length ≤ l.length + c i) (l : List (List Int)) : (foldN n f l).length ≤ l.length + sumN n c := by
 induction n with
 | zero => exact nR
 | succ n ih =>
  have h1 := ih (fun i l hi => h i l (by omega))
  have h2 := h n (foldN n f l) (by omega)
  show (f n (foldN n f l)).length ≤ l.length + (sumN n c + c n)
  omega
theorem eV_len (e : ET) : ∀ l, (eV e l).length ≤ l.length + esz e := by
 induction e with
 | nil => exact fun l => nR
 | mk d kid ih =>
  intro l
  have h1 := addV_len l d.v.b
  have h2 := foldN_len (f := fun i acc => eV (kid i) acc) (c := fun i => esz (kid i)) (n := d.n) (fun i l _ => ih i l) (addV l d.v.b)
  show (foldN d.n (fun i acc => eV (kid i) acc) (addV l d.v.b)).length ≤ l.length + (1 + sumN d.n (fun i => esz (kid i)))
  omega
theorem ptV_len (p : PB) (l : List (List Int)) : (ptV p l).length ≤ l.length + 3 := by
 have h1 := addV_len l p.s.v.b
 have h2 := addV_len (addV l p.s.v.b) p.p.v.b
 have h3 := addV_len (addV (addV l p.s.v.b) p.p.v.b) p.o.v.b
 unfold ptV
 omega
theorem eV_same {e : ET} : ∀ {e' : ET} {l : List (List Int)}, e.same e' → eV e l = eV e' l := by
 induction e with
 | nil => exact fun h => False.elim h
 | mk d kid ih =>
  intro e' l h
  cases e' with
  | nil => exact False.elim h
  | mk d' kid' =>
  obtain ⟨_, _, h2, _, h4, h5⟩ := h
  show foldN d.n _ (addV l d.v.b) = foldN d'.n _ (addV l d'.v.b)
  rw [← h4, ← h2]
  exact foldN_congr (fun i hi a => ih i (h5 i hi)) _
theorem VL.ne {w0 w : World} {B : Nat} {v : Value} {L : List SL} (h : VL w0 w B v L) : v.ownBlock ≠ some w.heap.size := fun e => by have := (h.lo _ e).2; omega
theorem Kp.ne {v v' : Value} {w W wr : World} {o : Obj} (h : Kp v W v' wr) (hW : W = w.alloc o) (hv : v.ownBlock ≠ some w.heap.size) : v'.ownBlock ≠ some w.heap.size := fun e => by
 rcases h.blk _ e with e' | e'
 · exact hv e'
 rw [hW] at e'
 have : (w.alloc o).heap.size = w.heap.size + 1 := by simp
 omega
theorem l4exprVars_any (e : ET) : ∀ (v : Value) (L : List SL) (B : Nat) (w0 w : World), e.lies 0 w0 → VL w0 w B v L → Bl w0 w → L.length + esz e ≤ 1000000 → B ≤ w.heap.size → w0.heap.size ≤ B →
 Calls Tryz.prog 112 #[v, .agg e.d.ar] w (AddAns w0 B v (eV e (L.map SL.b)) w) := by
 try unfold EN.ar
 induction e with
 | nil => exact fun _ _ _ _ _ h => False.elim h
 | mk d kid ih =>
  intro v L B w0 w hl hV hw hn hB hwB
  show Calls Tryz.prog 112 #[v, .agg d.ar] w (AddAns w0 B v (foldN d.n (fun i acc => eV (kid i) acc) (addV (L.map SL.b) d.v.b)) w)
  obtain ⟨hv, _, _, hn20, hR, hk⟩ := hl
  have hsum : esz (.mk d kid) = 1 + sumN d.n (fun i => esz (kid i)) := rfl
  obtain ⟨W, hW⟩ : ∃ W, W = w.alloc (.cells d.ar 42) := ⟨_, rfl⟩
  have hbW : Bl w W := by rw [hW]; exact bl_a _
  have HX0 : Hd (Box W w.heap.size d.cl) := (show Box _ _ _ by rw [hW]; exact Box.new w _ 42 _)
  have HNV := iH hV.ne
  have HLV := iH (fun g (hg : v.ownBlock = some g) => (hV.lo g hg).1)
  have AD := l4add_any v L d.v B w0 W (hV.below hbW) (hw.trans (hbW.mono hw.size)) hv (by omega) (Nat.le_trans hB hbW.size)
  have HBW : Hd (Bl w W ∧ B ≤ W.heap.size ∧ Bl w0 W) := ⟨hbW, Nat.le_trans hB hbW.size, hw.trans (hbW.mono hw.size)⟩
  have HWE := iH hW
  have HKR := iH hR
  have HIH := iH (fun i (hi : i < d.n) (v' : Value) (L' : List SL) (W' : World) (h1 : VL w0 W' B v' L') (h2 : Bl w0 W') (h3 : L'.length + esz (kid i) ≤ 1000000) (h4 : B ≤ W'.heap.size) => ih i v' L' B w0 W' (hk i hi) h1 h2 h3 h4 hwB)
  have HLEN : Hd (∀ k, k < d.n → (foldN k (fun i acc => eV (kid i) acc) (addV (L.map SL.b) d.v.b)).length + esz (kid k) ≤ 1000000) := fun k hk => by
   have h1 := foldN_len (f := fun i acc => eV (kid i) acc) (c := fun i => esz (kid i)) (n := k) (fun i l _ => eV_len (kid i) l) (addV (L.map SL.b) d.v.b)
   have h2 := addV_len (L.map SL.b) d.v.b
   rw [List.length_map] at h2
   have h3 := sumN_mono (f := fun i => esz (kid i)) (show k + 1 ≤ d.n by omega)
   have h4 : sumN (k + 1) (fun i => esz (kid i)) = sumN k (fun i => esz (kid i)) + esz (kid k) := rfl
   omega
  clear hR hk ih hv hV hw hn hB hbW hsum
  go_in
  go_upto_region 1 with fail
  rw [← hW]
  clear hW
  have c2 := HX0.o.2 2 _ rfl
  go_wp2_with fail
  refine AD.mono ?_
  rintro e w1 ⟨v1, L1, rfl, hV1, hR1, hK1⟩
  have HV1 := iH hV1
  have HR1 : Hd (L1.map SL.b = foldN 0 (fun i acc => eV (kid i) acc) (addV (L.map SL.b) d.v.b)) := hR1
  have HK1 := iH hK1
  clear AD hV1 hR1 hK1 c2
  go_wp2_with fail
  go_loopw [0, 5] (fun lv i wr => ∃ (k : Nat) (v' : Value) (L' : List SL), k ≤ d.n ∧ v' = lv ∧ i = .int .i64 k ∧ Hd (VL w0 wr B v' L') ∧ Hd (L'.map SL.b = foldN k (fun i acc => eV (kid i) acc) (addV (L.map SL.b) d.v.b)) ∧ Hd (Kp v W v' wr)) (fun _ i _ => d.n - (intOf i).toNat)
  case atStart => exact ⟨0, v1, L1, nZ, rfl, rfl, HV1, HR1, HK1⟩
  clear HV1 HR1 HK1
  obtain ⟨k, v', L', hk, rfl, rfl, HVr, HRr, HKr⟩ := hrel
  have x7 := (HKr.o.box HX0.o HNV.o).2 7 _ rfl
  by_cases hlk : k < d.n
  · have hlkz : (k : Int) < (d.n : Int) := by omega
    obtain ⟨b, off, eK, _, hbk, hck⟩ := HKR.o.resolve_left (by omega)
    have hbr := HBW.o.2.2.trans ((HKr.o.low HLV.o HBW.o.2.1).mono hwB)
    have hcx : wr.rangeAt b (off + k * 8) (kid k).d.cl := fun c u hu => (hbr.cell (p := ⟨b, off + k * 8 + c, none⟩) hbk).trans (hck k hlk c u hu)
    have hll : L'.length = (foldN k (fun i acc => eV (kid i) acc) (addV (L.map SL.b) d.v.b)).length := by rw [← HRr.o, List.length_map]
    have Z := HIH.o k hlk v' L' wr HVr.o hbr (by rw [hll]; exact HLEN.o k hlk) (Nat.le_trans HBW.o.2.1 HKr.o.size)
    rw [HRr.o] at Z
    have HS : Hd (foldN (k + 1) (fun i acc => eV (kid i) acc) (addV (L.map SL.b) d.v.b) = eV (kid k) (foldN k (fun i acc => eV (kid i) acc) (addV (L.map SL.b) d.v.b))) := rfl
    rw [eK] at x7
    clear eK hck hbr hll
    go_wp2_with (refine wpList_load_mid rfl 42 _ rfl b (off + k * 8) rfl (kid k).d.cl _ hcx Tryz.underlying42 rfl (by kernel_rfl) ?_; try simp only [Act.put, sA, zA, cA])
    refine Z.mono ?_
    rintro e w5 ⟨v5, L5, rfl, hV5, hR5, hK5⟩
    have HN1 := iH hV5
    have HN2 : Hd (L5.map SL.b = foldN (k + 1) (fun i acc => eV (kid i) acc) (addV (L.map SL.b) d.v.b)) := (show _ = _ by rw [HS.o]; exact hR5)
    have HN3 := iH (HKr.o.trans hK5)
    clear Z hcx hV5 hR5 hK5 x7 HVr HRr HKr
    go_wp2
    go_roundw
    case rel => exact ⟨k + 1, v5, L5, by omega, rfl, by go_num, HN1, HN2, HN3⟩
    case measure => simp [intOf]; omega
  obtain rfl : k = d.n := by omega
  have hlkz : ¬ (d.n : Int) < (d.n : Int) := by omega
  go_wp2
  go_ret
  exact ⟨_, L', rfl, HVr.o, HRr.o, Kp.pre HBW.o.1 HKr.o⟩
structure LS (w0 w W : World) (B : Nat) (v0 v : Value) (L : List SL) (cs : List Value) (W' : World) : Prop where
 vl : VL w0 W' B v L
 kp : Kp v0 W v W'
 bx : Box W' w.heap.size cs
 bl : Bl w0 W'
 lo : B ≤ W'.heap.size
 ne : v.ownBlock ≠ some w.heap.size
theorem LS.step {w0 w W : World} {B : Nat} {v0 v v' : Value} {L L' : List SL} {cs : List Value} {W' W'' : World} {o : Obj} (h : LS w0 w W B v0 v L cs W') (hW : W = w.alloc o) (hv0 : v0.ownBlock ≠ some w.heap.size) (hwB : w0.heap.size ≤ B) (hV : VL w0 W'' B v' L') (hK : Kp v W' v' W'') : LS w0 w W B v0 v' L' cs W'' :=
 ⟨hV, h.kp.trans hK, hK.box h.bx h.ne, h.bl.trans ((hK.low (fun g hg => (h.vl.lo g hg).1) h.lo).mono hwB), Nat.le_trans h.lo hK.size, (h.kp.trans hK).ne hW hv0⟩
theorem LS.below {w0 w W : World} {B : Nat} {v0 v : Value} {L : List SL} {cs : List Value} {W' W'' : World} (h : LS w0 w W B v0 v L cs W') (hb : Below W'.heap.size W' W'') : LS w0 w W B v0 v L cs W'' :=
 ⟨h.vl.below hb, h.kp.trans (Kp.of_below hb), h.bx.below hb, h.bl.trans (hb.mono h.bl.size), Nat.le_trans h.lo hb.size, h.ne⟩
theorem spares_any (g : Nat) (L n : Int) (w : World) (hc : Ctr w g L) (h0 : -100000 ≤ L) (h1 : L ≤ 100000) (h2 : 0 ≤ n) (h3 : n ≤ 1048576) :
 Calls Tryz.prog 142 #[.pointer (some ⟨g, 0, none⟩), .int .i64 n] w fun e w' => e = .returned (.bool (decide (0 ≤ L - n))) ∧ Ctr w' g (L - n) ∧ Past g w w' := by
 have HC : Hd (Ctr (w.setCell ⟨g, 0, none⟩ (.int .i64 (L - n))) g (L - n) ∧ Past g w (w.setCell ⟨g, 0, none⟩ (.int .i64 (L - n)))) := ⟨hc.set _, (Past.refl g w).set 0 _⟩
 have c0 := hc.cell
 have f0 := hc.fr
 have c1 : (w.setCell ⟨g, 0, none⟩ (.int .i64 (L - n))).cell? ⟨g, 0, none⟩ = some (.int .i64 (L - n)) := (hc.set _).cell
 have hwr : IntKind.i64.wrap (L - n) = L - n := by rw [IntKind.wrap_i64]; omega
 clear hc
 go_in
 go_wp2
 go_ret
 exact ⟨by simp, HC.o⟩
theorem isTooDeep_any (p q : Int) (w : World) : Calls Tryz.prog 148 #[.agg #[.int .i64 p, .int .i64 q]] w (Tells (q < p) w) := by
 go_in
 go_wp2
 go_ret
 exact Tells.of (by simp) (bl_a _)
def AdAns (P : Prop) (g : Nat) (L : Int) (w : World) (e : Ending) (w' : World) : Prop := ∃ q : Bool, e = .returned (.bool q) ∧ (q = true ↔ P) ∧ Ctr w' g L ∧ Past g w w'
theorem admits_any (g : Nat) (L p q : Int) (w : World) (hc : Ctr w g L) (h0 : 0 ≤ L) (h1 : L ≤ 100000) :
 Calls Tryz.prog 124 #[.pointer (some ⟨g, 0, none⟩), .agg #[.int .i64 p, .int .i64 q]] w (AdAns (1 ≤ L ∧ p ≤ q) g (L - 1) w) := by
 have SP := fun o => spares_any g L 1 (w.alloc o) (hc.below (bl_a o)) (by omega) h1 (by omega) (by omega)
 have hg := hc.lt
 clear hc
 go_in
 go_wp2_with fail
 refine (SP _).mono ?_
 rintro e w1 ⟨rfl, hc1, hp1⟩
 have HC1 := iH hc1
 have HP1 := iH ((Past.of_below (bl_a _)).trans hp1)
 have x0 : w1.cell? ⟨w.heap.size, 0, none⟩ = some (.int .i64 p) := (hp1.cell (p := ⟨w.heap.size, 0, none⟩) (by simp) (by show w.heap.size ≠ g; omega)).trans (by simp [go_sem])
 have x1 : w1.cell? ⟨w.heap.size, 1, none⟩ = some (.int .i64 q) := (hp1.cell (p := ⟨w.heap.size, 1, none⟩) (by simp) (by show w.heap.size ≠ g; omega)).trans (by simp [go_sem])
 clear SP hc1 hp1
 by_cases hL : 0 ≤ L - 1
 · have hLd : decide (0 ≤ L - 1) = true := by simp; omega
   have TD := isTooDeep_any p q w1
   rw [hLd]
   go_wp2_with fail
   refine TD.mono ?_
   rintro e w2 ⟨q2, rfl, hq2, hb2⟩
   have HC2 := iH (HC1.o.below hb2)
   have HP2 := iH (HP1.o.trans (Past.of_below hb2))
   have HE : Hd ((!q2) = true ↔ (1 ≤ L ∧ p ≤ q)) := by
    show (_ ↔ _)
    cases q2 with
    | true => exact ⟨fun h => (by cases h), fun h => by have := hq2.1 rfl; omega⟩
    | false => exact ⟨fun _ => ⟨by omega, by
     apply Classical.byContradiction
     intro hn
     have := hq2.2 (by omega)
     cases this⟩, fun _ => rfl⟩
   clear TD hq2 hb2 x0 x1
   go_wp2
   go_ret
   exact ⟨_, rfl, HE.o, HC2.o, HP2.o⟩
 have hLd : decide (0 ≤ L - 1) = false := by simp; omega
 rw [hLd]
 go_wp2
 go_ret
 exact ⟨false, rfl, ⟨fun h => (by cases h), fun h => absurd h.1 (by omega)⟩, HC1.o, HP1.o⟩
theorem placeBelow_any (p q : Int) (w : World) (h0 : 0 ≤ p) (h1 : p ≤ 100000) : Calls Tryz.prog 128 #[.agg #[.int .i64 p, .int .i64 q]] w fun e w' => e = .returned (.agg #[.int .i64 (p + 1), .int .i64 q]) ∧ Bl w w' := by
 go_in
 go_wp2_with fail
 refine bodyPost_ret (v := .agg #[.int .i64 (p + 1), .int .i64 q]) (by simp [results, Tryz.results128, go_sem]) rfl ?_
 exact ⟨rfl, bl_alloc (bl_a _) _⟩
theorem isZeroT_any (x : TB) (w : World) (h : BsF 0 w x.sl) :
 Calls Tryz.prog 180 #[.agg #[.int .i64 x.t.k, .slice x.t.a x.t.len x.t.cap, .int .i64 x.t.n, .int .i64 x.t.s]] w (Tells (zeroT x.td) w) := by
 have HL : Hd (x.b = [] ↔ x.t.len = 0) := nil_len h.1.1
 clear h
 by_cases h0 : x.t.k = 0
 rotate_left
 · go_in
   go_wp2
   go_ret
   exact Tells.no (P := zeroT x.td) (fun hp => h0 hp.1) (bl_a _)
 by_cases h1 : x.t.len = 0
 rotate_left
 · go_in
   go_wp2
   go_ret
   exact Tells.no (P := zeroT x.td) (fun hp => h1 (HL.o.1 hp.2.1)) (bl_a _)
 by_cases h2 : x.t.n = 0
 rotate_left
 · go_in
   go_wp2
   go_ret
   exact Tells.no (P := zeroT x.td) (fun hp => h2 hp.2.2.1) (bl_a _)
 by_cases h3 : x.t.s = 0
 rotate_left
 · have h3' : (x.t.s == 0) = false := by simp [h3]
   go_in
   go_wp2
   go_ret
   exact Tells.no (P := zeroT x.td) (fun hp => h3 hp.2.2.2) (bl_a _)
 have HP : Hd (zeroT x.td) := ⟨h0, HL.o.2 h1, h2, h3⟩
 go_in
 go_wp2
 go_ret
 exact Tells.yes HP.o (bl_a _)
theorem isBare_any (d : EN) (w : World) (hv : BsF 0 w d.v) (ht : BsF 0 w d.t.sl) : Calls Tryz.prog 175 #[.agg d.ar] w (Tells (d.op = 0 ∧ d.v.b = [] ∧ zeroT d.t.td) w) := by
 try unfold EN.ar
 have HL := iH (nil_len hv.1.1)
 have HZ := iH (fun W (hb : Bl w W) => isZeroT_any d.t W (ht.upper (uB hb)))
 obtain ⟨P, hP⟩ : ∃ P, P = (d.op = 0 ∧ d.v.b = [] ∧ zeroT d.t.td) := ⟨_, rfl⟩
 have HP := iH (show (P ↔ _) by rw [hP])
 rw [← hP]
 clear hv ht hP
 by_cases h1 : d.op = 0
 rotate_left
 · go_in
   go_wp2
   go_ret
   exact Tells.no (fun hp => h1 (HP.o.1 hp).1) (bl_a _)
 by_cases h2 : d.v.len = 0
 rotate_left
 · go_in
   go_wp2
   go_ret
   exact Tells.no (fun hp => h2 (HL.o.1 (HP.o.1 hp).2.1)) (bl_a _)
 have H3 : Hd (d.op = 0 ∧ d.v.b = []) := ⟨h1, HL.o.2 h2⟩
 have Z := HZ.o
 go_in
 go_wp2_with fail
 refine (Z _ (bl_a _)).mono ?_
 rintro e w1 ⟨q1, rfl, hq1, hb1⟩
 have HQ := iH (show (q1 = true ↔ P) from hq1.trans ⟨fun h => HP.o.2 ⟨H3.o.1, H3.o.2, h⟩, fun h => (HP.o.1 h).2.2⟩)
 have HB := iH (bl_trans (bl_a _) hb1)
 clear Z hq1 hb1
 go_wp2
 go_ret
 exact Tells.of HQ.o HB.o
theorem isZeroE_any (e : ET) (w : World) (h : e.lies 0 w) : Calls Tryz.prog 173 #[.agg #[.int .i64 e.d.k, .int .i64 e.d.op, .slice e.d.v.a e.d.v.len e.d.v.cap, .int .i64 e.d.t.t.k, .slice e.d.t.t.a e.d.t.t.len e.d.t.t.cap, .int .i64 e.d.t.t.n, .int .i64 e.d.t.t.s, .slice e.d.ka e.d.n e.d.kc]] w (Tells (zeroE e) w) := by
 cases e with
 | nil => exact False.elim h
 | mk d kid =>
 obtain ⟨hv, ht, _⟩ := h
 show Calls Tryz.prog 173 #[.agg #[.int .i64 d.k, .int .i64 d.op, .slice d.v.a d.v.len d.v.cap, .int .i64 d.t.t.k, .slice d.t.t.a d.t.t.len d.t.t.cap, .int .i64 d.t.t.n, .int .i64 d.t.t.s, .slice d.ka d.n d.kc]] w (Tells (zeroE (.mk d kid)) w)
 have HZ : Hd (∀ W, Below w.heap.size w W → Calls Tryz.prog 175 #[.agg #[.int .i64 d.k, .int .i64 d.op, .slice d.v.a d.v.len d.v.cap, .int .i64 d.t.t.k, .slice d.t.t.a d.t.t.len d.t.t.cap, .int .i64 d.t.t.n, .int .i64 d.t.t.s, .slice d.ka d.n d.kc]] W (Tells (d.op = 0 ∧ d.v.b = [] ∧ zeroT d.t.td) W)) := fun W hb => isBare_any d W (hv.upper (Upper.of_below hb)) (ht.upper (Upper.of_below hb))
 obtain ⟨P, hP⟩ : ∃ P, P = zeroE (.mk d kid) := ⟨_, rfl⟩
 have HP : Hd (P ↔ (d.k = 0 ∧ d.op = 0 ∧ d.v.b = [] ∧ zeroT d.t.td ∧ d.n = 0)) := (show (P ↔ _) by rw [hP]; exact Iff.rfl)
 rw [← hP]
 clear hv ht hP
 by_cases h0 : d.k = 0
 rotate_left
 · go_in
   go_wp2
   go_ret
   exact Tells.no (fun hp => h0 (HP.o.1 hp).1) (bl_a _)
 by_cases h5 : d.n = 0
 rotate_left
 · go_in
   go_wp2
   go_ret
   exact Tells.no (fun hp => h5 (HP.o.1 hp).2.2.2.2) (bl_a _)
 have H3 : Hd (d.k = 0 ∧ d.n = 0) := ⟨h0, h5⟩
 have Z := HZ.o
 rw [h0, h5] at Z ⊢
 clear HZ h0 h5
 go_in
 go_wp2_with fail
 refine (Z _ (bl_a _)).mono ?_
 rintro e w1 ⟨q1, rfl, hq1, hb1⟩
 have HQ := iH (show (q1 = true ↔ P) from hq1.trans ⟨fun h => HP.o.2 ⟨H3.o.1, h.1, h.2.1, h.2.2, H3.o.2⟩, fun h => ⟨(HP.o.1 h).2.1, (HP.o.1 h).2.2.1, (HP.o.1 h).2.2.2.1⟩⟩)
 have HB := iH (bl_trans (bl_a _) hb1)
 clear Z hq1 hb1
 go_wp2
 go_ret
 exact Tells.of HQ.o HB.o
def kLo (k : Int) : Int := if k = 2 then 2 else if k = 3 ∨ k = 7 then 1 else if k = 5 then 3 else if k = 6 then 1 else 0
def kHi (k : Int) : Int := if k = 2 then 2 else if k = 3 ∨ k = 7 then 1 else if k = 5 then 3 else if k = 6 then 4 else 0
theorem kidCount_any (k : Int) (w : World) : Calls Tryz.prog 174 #[.int .i64 k] w fun e w' => e = .returned (.tuple #[.int .i64 (kLo k), .int .i64 (kHi k)]) ∧ w' = w := by
 go_in
 go_wp2
 all_goals go_ret2
 all_goals refine ⟨?_, rfl⟩
 all_goals (unfold kLo kHi; simp_all <;> omega)
def BareN (d : EN) : Prop := d.op = 0 ∧ d.v.b = [] ∧ zeroT d.t.td
theorem BareN.mk {d : EN} (h1 : d.op = 0) (h2 : d.v.b = []) (h3 : zeroT d.t.td) : BareN d := And.intro h1 (And.intro h2 h3)
theorem wpl_at {P : Program} {ops : Array Oper} {rest : List Oper} {op : Oper} {a : Act} {w : World} {Q : Exit → Act → World → Prop} (h : wpList P ops Q (op :: rest) a w) : wpList P ops Q (op :: rest) a w := h
theorem zeroT0 : zeroT (TB.td ⟨⟨0, none, 0, 0, 0, 0⟩, []⟩) := by unfold zeroT; exact ⟨rfl, rfl, rfl, rfl⟩
theorem hasOwnE_0 (d : EN) (w : World) (hkv : d.k = 0) (hv : BsF 0 w d.v) (ht : BsF 0 w d.t.sl) (_hf : d.t.t.fits) (hn : d.n ≤ 1048576) : Calls Tryz.prog 155 #[.agg d.ar] w (Tells (nodeOk d) w) := by
 try unfold EN.ar
 have KC := fun W => kidCount_any 0 W
 have e1 : kLo 0 = 0 := by decide
 have e2 : kHi 0 = 0 := by decide
 rw [e1, e2] at KC
 clear e1 e2
 have WI := fun W => within_any (d.n : Int) 0 0 W
 have HIB : Hd (∀ W, Bl w W → Cl 175 #[.agg #[.int .i64 0, .int .i64 d.op, .slice none 0 0, .int .i64 d.t.t.k, .slice d.t.t.a d.t.t.len d.t.t.cap, .int .i64 d.t.t.n, .int .i64 d.t.t.s, .slice d.ka d.n d.kc]] W (Tells (BareN ⟨0, d.op, ⟨none, 0, 0, []⟩, d.t, d.ka, d.kc, d.n⟩) W)) := fun W hb => isBare_any _ W (bs_nil W) (ht.upper (uB hb))
 have HKO : Hd (kOk d.k d.n ↔ ((0 : Int) ≤ (d.n : Int) ∧ (d.n : Int) ≤ 0)) := (show (_ ↔ _) by rw [hkv]; unfold kOk; omega)
 have HKV := iH hkv
 have HIN := iH (fun W (hb : Bl w W) => isName_any d.v.a d.v.len d.v.cap d.v.b W (hv.upper (uB hb)).1)
 rw [hkv]
 clear hv ht hkv
 go_in
 go_wp2_with fail
 refine (KC _).mono ?_
 rintro e w1 ⟨rfl, rfl⟩
 clear KC
 go_wp2_with fail
 refine (WI _).mono ?_
 rintro e w1 ⟨rfl, rfl⟩
 clear WI
 by_cases hkn : (0 : Int) ≤ (d.n : Int) ∧ (d.n : Int) ≤ 0
 rotate_left
 · have hw2 : (decide ((0 : Int) ≤ (d.n : Int)) && decide ((d.n : Int) ≤ 0)) = false := by simp; omega
   have HNO : Hd (¬ nodeOk d) := fun hh => hkn (HKO.o.1 hh.1)
   rw [hw2]
   clear hkn hw2
   go_wp2
   go_ret
   exact Tells.no HNO.o (bl_a _)
 have hw2 : (decide ((0 : Int) ≤ (d.n : Int)) && decide ((d.n : Int) ≤ 0)) = true := by simp; omega
 have HK := iH (HKO.o.2 hkn)
 rw [hw2]
 clear hkn hw2 HKO
 have IN := HIN.o
 cases hnm : nameOk d.v.b with
 | false =>
  rw [hnm] at IN
  have HNO : Hd (¬ nodeOk d) := fun hh => by have h := hh.2.1 (by rw [HKV.o]; simp); rw [hnm] at h; cases h
  clear hnm
  go_wp2_with fail
  refine (IN _ (bl_alloc (bl_a _) _)).mono ?_
  rintro e w3 ⟨rfl, rfl⟩
  clear IN
  go_wp2
  go_ret
  exact Tells.no HNO.o (bl_alloc (bl_a _) _)
 | true =>
  rw [hnm] at IN
  have HNM := iH hnm
  clear hnm
  go_wp2_with fail
  refine (IN _ (bl_alloc (bl_a _) _)).mono ?_
  rintro e w3 ⟨rfl, rfl⟩
  clear IN
  go_wp2_with fail
  refine (HIB.o _ (bl_alloc (bl_a _) _)).mono ?_
  rintro e w9 ⟨q9, rfl, hq9, hb9⟩
  have HE := iH (show (q9 = true ↔ nodeOk d) from hq9.trans ⟨fun h => ⟨HK.o, fun _ => HNM.o, fun h2 => absurd (by rw [HKV.o]; simp) h2, fun h2 => absurd h2 (by rw [HKV.o]; decide), fun _ => h.2.2, ⟨by rw [h.1]; decide, by rw [h.1]; decide⟩, fun _ => h.1⟩, fun h => BareN.mk (h.2.2.2.2.2.2 (by rw [HKV.o]; decide)) rfl (h.2.2.2.2.1 (by rw [HKV.o]; decide))⟩)
  have HB9 := iH (bl_trans (bl_alloc (bl_a _) _) hb9)
  clear hq9 hb9
  go_wp2
  go_ret
  exact Tells.of HE.o HB9.o
end Go.Proofs.YtoloadogihbdeaaGreat
