/- Texts put together: ReB ReC ReD ReH GtxC ShwK GtxE ReJ ReK ReP -/
import Derived.Test.YtiodiooaaojbhaaGreatDoorNk24
import Derived.Test.YtiodiooaaojbhaaGreatDoorNk16
import Derived.Test.YtiodiooaaojbhaaGreatDoorNk08
import Derived.Deep.RegionHeld3
import Derived.Test.YtiodiooaaojbhaaGreatDoorNk15
import Derived.Test.YtiodiooaaojbhaaGreatDoorNk14
/- ReB -/
namespace Go.Proofs.YtiodiooaaojbhaaGreatDoor
open Go.RowKit Go.Deep Go.Sort Go.Lib
set_option maxRecDepth 100000

/-- The triples that a text writes, in its order. -/
def Reads (bs : List Int) (len : Nat) (ts : List T3) : Prop := ∃ toks, lexR bs 0 = .ok toks ∧ readR toks len = .ok ts
/-- The same triples, each one once, in order. -/
structure OnceT (ts l : List T3) : Prop where
  asc : l.Pairwise (fun x y => cmpD x y < 0)
  mem : ∀ t, t ∈ l ↔ t ∈ ts
/-- What is answered where a text is refused. -/
inductive Refuses (bs : List Int) (len : Nat) : Int → Int → Prop
  | long (h : 3000 < len) : Refuses bs len 1 0
  | byte (p : Nat) (h : len ≤ 3000) (hl : lexR bs 0 = .error p) : Refuses bs len 2 p
  | form (toks : Toks) (a : Nat) (h : len ≤ 3000) (hl : lexR bs 0 = .ok toks) (hr : readR toks len = .error a) : Refuses bs len 3 a
  | many (ts l : List T3) (h : len ≤ 3000) (hr : Reads bs len ts) (ho : OnceT ts l) (hm : 60 < l.length) : Refuses bs len 1 0
def G1.nw (y : G1) (w : World) (B : Nat) : Prop := Nw w B y.t.a y.t.len y.bt ∧ Nw w B y.u.a y.u.len y.bu ∧ Nw w B y.v.a y.v.len y.bv
def G1.ahead (y : G1) (C : Nat) : Prop := ∀ p, y.t.a = some p ∨ y.u.a = some p ∨ y.v.a = some p → p.block < C
/-- What is answered where a text is read. -/
structure ReadWell (bs : List Int) (len : Nat) (w w' : World) (a : Option Addr) (cap : Nat) (r : List G1) : Prop where
  le : len ≤ 3000
  ts : ∃ ts, Reads bs len ts ∧ OnceT ts (r.map G1.td3)
  few : r.length ≤ 60
  own : ∃ C, w.heap.size ≤ C ∧ OwnG w' C (.slice a r.length cap) r ∧ ∀ y ∈ r, y.ahead C
  sep : ∃ ql : List Q3, (∀ y ∈ r, ∃ q ∈ ql, y = q.g) ∧ (ql.flatMap Q3.tvs).Pairwise Apart
  good : ∀ y ∈ r, y.good ∧ fine3 y.td3
  txt : ∀ y ∈ r, y.nw w' w.heap.size
def GrRes (bs : List Int) (len : Nat) (w : World) (e : Ending) (w' : World) : Prop :=
  Below w.heap.size w w' ∧ ((∃ c p, Refuses bs len c p ∧ e = .returned (.tuple #[.agg #[.slice none 0 0], .int .i64 c, .int .i64 p])) ∨ ∃ a cap r, ReadWell bs len w w' a cap r ∧ e = .returned (.tuple #[.agg #[.slice a r.length cap], .int .i64 0, .int .i64 0]))
theorem OwnG.keep {w w' : World} {B : Nat} {v : Value} {l : List G1} (h : OwnG w B v l) (hs : w.heap.size ≤ w'.heap.size) (hk : ∀ b, B ≤ b → b < w.heap.size → w'.heap[b]? = w.heap[b]?) : OwnG w' B v l := by
  obtain ⟨⟨h1, h2⟩, hl⟩ := h
  refine ⟨⟨h1, ?_⟩, fun c hc => ⟨(hl c hc).1, Nat.lt_of_lt_of_le (hl c hc).2 hs⟩⟩
  rcases h2 with h2 | ⟨g', cap', cur, hv, hB, hh, r⟩
  · exact .inl h2
  · refine .inr ⟨g', cap', cur, hv, hB, ?_, r⟩
    rw [hk g' hB (hl g' (by rw [hv]; rfl)).2]
    exact hh
theorem Nw.keep {w' W : World} {B len : Nat} {a : Option Addr} {bs : List Int} (h : Nw w' B a len bs) (hs : w'.heap.size ≤ W.heap.size) (hk : ∀ b, B ≤ b → b < w'.heap.size → W.heap[b]? = w'.heap[b]?) : Nw W B a len bs := by
  rcases h with ⟨rfl, rfl, rfl⟩ | ⟨g, rfl, hB, ho⟩
  · exact .inl ⟨rfl, rfl, rfl⟩
  · obtain ⟨⟨h1, h2, h3, h4⟩, h5, h6, h7⟩ := ho
    have hb := hk g hB h5
    have hc : ∀ i, W.cell? ⟨g, i, none⟩ = w'.cell? ⟨g, i, none⟩ := fun i => World.cell?_of_block (w := w') (a := ⟨g, i, none⟩) hb
    refine .inr ⟨g, rfl, hB, ⟨h1, h2, h3, ?_⟩, Nat.lt_of_lt_of_le h5 hs, fun i hi => ?_, fun i hi => ?_⟩
    · rcases h4 with h4 | ⟨b, off, e, hlt, hcc⟩
      · exact .inl h4
      · cases e
        exact .inr ⟨g, 0, rfl, Nat.lt_of_lt_of_le hlt hs, fun i hi => (hc _).trans (hcc i hi)⟩
    · obtain ⟨v, hv⟩ := h6 i hi
      exact ⟨v, (hc i).trans hv⟩
    · exact (World.frozen?_of_block (w := w') (a := ⟨g, i, none⟩) hb).trans (h7 i hi)
theorem nw_ahead {w : World} {B len : Nat} {a : Option Addr} {bs : List Int} (h : Nw w B a len bs) (p : Addr) (ha : a = some p) : p.block < w.heap.size := by
  rcases h with ⟨rfl, _⟩ | ⟨g, rfl, _, ho⟩
  · cases ha
  · cases ha
    exact ho.2.1
theorem Q3.mem {q : Q3} {ql : List Q3} {L : List TV} (hq : q ∈ ql) (hs : (ql.flatMap Q3.tvs).Sublist L) : q.1 ∈ L ∧ q.2.1 ∈ L ∧ q.2.2 ∈ L := by
  have : ∀ x ∈ q.tvs, x ∈ L := fun x hx => hs.subset (List.mem_flatMap.2 ⟨q, hq, hx⟩)
  exact ⟨this _ (by simp [Q3.tvs]), this _ (by simp [Q3.tvs]), this _ (by simp [Q3.tvs])⟩
set_option maxHeartbeats 4000000 in
theorem implGraphRead_any (a : Option Addr) (len cap : Nat) (bs : List Int) (w : World) (hB : Bs w a len bs) (hT : Tab w) (hE : Errs w) :
    Calls Tryz.prog 4 #[.slice a len cap] w (GrRes bs len w) := by
  by_cases hlong : 3000 < len
  · refine (grLong a len cap w hlong).mono ?_
    rintro e w' ⟨rfl, hb⟩
    exact ⟨hb, .inl ⟨1, 0, .long hlong, rfl⟩⟩
  have hle : len ≤ 3000 := by omega
  have hmf : ∀ (fn : Fn) (first cap : Array Value) (w : World), (Instr.makeFunc fn first cap).run Tryz.prog w = .ok (.func fn first cap) w := fun _ _ _ _ => rfl
  have HBs : Hid (∀ W, Below w.heap.size w W → Bs W a len bs ∧ Tab W ∧ Errs W) := fun W hb => ⟨hB.below hb, hT.below hb, hE.below hb⟩
  have HL : Hid (bs.length = len) := hB.1
  clear hB hT hE hlong
  go_enter_defers Tryz.func4, Tryz.ntmps4
  go_wp2_with fail
  have HX3 : Hid (Boxes w.heap.size (((w.alloc (.cells #[.slice none 0 0] 25)).alloc (.cells #[.int .i64 0] 3)).alloc (.cells #[.int .i64 0] 3)) (.slice none 0 0) 0 0) := Boxes.new w _ _
  have HB3 : Hid (Below w.heap.size w (((w.alloc (.cells #[.slice none 0 0] 25)).alloc (.cells #[.int .i64 0] 3)).alloc (.cells #[.int .i64 0] 3))) := bl_alloc (bl_alloc (bl_a _) _) _
  have HS3 : Hid ((((w.alloc (.cells #[.slice none 0 0] 25)).alloc (.cells #[.int .i64 0] 3)).alloc (.cells #[.int .i64 0] 3)).heap.size = w.heap.size + 1 + 1 + 1) := by show _ = _; simp
  generalize (((w.alloc (.cells #[.slice none 0 0] 25)).alloc (.cells #[.int .i64 0] 3)).alloc (.cells #[.int .i64 0] 3)) = W3 at *
  obtain ⟨hb3, ht3, he3⟩ := HBs.out W3 HB3.out
  refine (readerOf_any a len cap bs 3000 W3 hb3 hle (by omega) ht3 he3).mono ?_
  clear hb3 ht3 he3
  rintro e w4 (⟨rd, v, L, hR, hl, rfl⟩ | ⟨p, hl, rfl, hb⟩)
  rotate_left
  · have HP : Hid (Refuses bs len 2 p) := .byte p hle hl
    have HB4 : Hid (Below W3.heap.size W3 w4) := hb
    clear hl hb
    unfold refused
    go_wp2_with fail
    refine gr_panic _ _ w.heap.size 2 p w4 _ _ _ rfl rfl rfl (HX3.out.below (HS3.out ▸ HB4.out)) ?_
    intro W' hb
    refine ⟨(HB3.out.trans (HB4.out.mono HB3.out.size)).trans hb, .inl ⟨2, p, HP.out, rfl⟩⟩
  obtain ⟨hK, hLl, hmay⟩ := TV.may_ok hl (by have := HL.out; omega)
  have HR : Hid (Rdr W3 rd 0 len w4 v L) := hR
  have Hl : Hid (lexR bs 0 = .ok (L.map TV.pt)) := hl
  have HLl : Hid (L.length ≤ 3000) := (show L.length ≤ 3000 by have := HL.out; omega)
  have HM : Hid (∀ x ∈ L, x.pt.2.may) := hmay
  have HK : Hid (∀ x ∈ L, TVok x) := hK
  clear hR hl hK hLl hmay
  go_wp2_with fail
  refine (triples_any W3 w4 rd len v L HR.out HK.out (by have := HLl.out; omega)).mono ?_
  rintro e w5 ⟨hb5, ⟨aa, he, rfl⟩ | ⟨lv, ql, rfl, hO, hrd, hq, hsub, htx, hlen⟩⟩
  · have HP : Hid (Refuses bs len 3 aa) := .form _ aa hle Hl.out he
    have HB5 : Hid (Below W3.heap.size W3 w5) := hb5
    clear he hb5
    unfold refused
    go_wp2_with fail
    refine gr_panic _ _ w.heap.size 3 aa w5 _ _ _ rfl rfl rfl (HX3.out.below (HS3.out ▸ HB5.out)) ?_
    intro W' hb
    refine ⟨(HB3.out.trans (HB5.out.mono HB3.out.size)).trans hb, .inl ⟨3, aa, HP.out, rfl⟩⟩
  have HQ : Hid (∀ q ∈ ql, q.g.good ∧ fine3 q.g.td3) := fun q hqq => Q3.good (hq q hqq) (HM.out _ (Q3.mem hqq hsub).2.2)
  have HTX : Hid (∀ y ∈ ql.map Q3.g, (∀ W, Below w4.heap.size w5 W → y.nw W W3.heap.size) ∧ y.ahead w4.heap.size) := fun y hy => by
    obtain ⟨q, hqq, rfl⟩ := List.mem_map.1 hy
    obtain ⟨m1, m2, m3⟩ := Q3.mem hqq hsub
    have t1 := HR.out.txt _ m1
    have t2 := HR.out.txt _ m2
    have t3 := HR.out.txt _ m3
    refine ⟨fun W hb => ⟨nw_up t1 (htx _ m1) hb, nw_up t2 (htx _ m2) hb, nw_up t3 (htx _ m3) hb⟩, fun p hp => ?_⟩
    rcases hp with hp | hp | hp
    · exact nw_ahead t1 p hp
    · exact nw_ahead t2 p hp
    · exact nw_ahead t3 p hp
  have HG : Hid (∀ y ∈ ql.map Q3.g, y.good ∧ fine3 y.td3) := fun y hy => by
    obtain ⟨q, hqq, rfl⟩ := List.mem_map.1 hy
    exact HQ.out q hqq
  have HRd : Hid (Reads bs len ((ql.map Q3.g).map G1.td3)) := ⟨_, Hl.out, by rw [List.map_map]; exact hrd⟩
  have HSP : Hid ((ql.flatMap Q3.tvs).Pairwise Apart) := HR.out.sep.sublist hsub
  have HO5 : Hid (OwnG w5 w4.heap.size lv (ql.map Q3.g)) := hO
  have HB5 : Hid (Below W3.heap.size W3 w5) := hb5
  have hn5 : (ql.map Q3.g).length ≤ 1000000 := by rw [List.length_map]; have := HLl.out; omega
  have HS4 : Hid (W3.heap.size ≤ w4.heap.size) := HR.out.bel.size
  clear hb5 hO hrd hq hsub htx hlen
  go_wp2_with fail
  refine (sortG_any w4.heap.size lv (ql.map Q3.g) w5 HO5.out hn5 (fun y hy => ⟨(HG.out y hy).1, fun W hb => ⟨((HTX.out y hy).1 W hb).1.bs, ((HTX.out y hy).1 W hb).2.1.bs, ((HTX.out y hy).1 W hb).2.2.bs⟩⟩)).mono ?_
  rintro e w6 ⟨rfl, l6, hp6, hs6, ho6, hb6⟩
  have HO6 : Hid (OwnG w6 w4.heap.size lv l6) := ho6
  have HB6 : Hid (Below w4.heap.size w5 w6) := hb6
  have HP6 : Hid (l6.Perm (ql.map Q3.g)) := hp6
  have HS6 : Hid ((l6.map G1.td3).Pairwise (fun x y => cmpD x y ≤ 0)) := hs6
  clear ho6 hb6 hp6 hs6
  go_wp2_with fail
  refine (compactG_any w4.heap.size lv l6 w6 HO6.out (by rw [HP6.out.length_eq]; exact hn5) (fun y hy => ⟨(HG.out y (HP6.out.mem_iff.1 hy)).1, fun W hb => ?_⟩) (fun y hy => (HG.out y (HP6.out.mem_iff.1 hy)).2) HS6.out).mono ?_
  · have := (HTX.out y (HP6.out.mem_iff.1 hy)).1 W (HB6.out.trans hb)
    exact ⟨this.1.bs, this.2.1.bs, this.2.2.bs⟩
  rintro e w7 ⟨a7, r, cap7, rfl, ho7, hb7, hon⟩
  have HO7 : Hid (OwnG w7 w4.heap.size (.slice a7 r.length cap7) r) := ho7
  have HB7 : Hid (Below w4.heap.size w5 w7) := HB6.out.trans hb7
  have HON : Hid (OnceT ((ql.map Q3.g).map G1.td3) (r.map G1.td3)) := ⟨hon.asc, fun t => (hon.mem t).trans ((HP6.out.map G1.td3).mem_iff)⟩
  have HSU : Hid (∀ y ∈ r, y ∈ ql.map Q3.g) := fun y hy => HP6.out.mem_iff.1 (hon.sub y hy)
  have HX7 : Hid (Boxes w.heap.size w7 (.slice none 0 0) 0 0) := HX3.out.below (HS3.out ▸ (HB5.out.trans (HB7.out.mono HS4.out)))
  have HB0 : Hid (Below w.heap.size w w7) := (HB3.out.trans (HB5.out.mono HB3.out.size)).trans (HB7.out.mono (Nat.le_trans HB3.out.size HS4.out))
  clear ho7 hb7 hon
  by_cases hm : 60 < r.length
  · have hmz : (60 : Int) < (r.length : Int) := by omega
    have HP : Hid (Refuses bs len 1 0) := .many _ _ hle HRd.out HON.out (by rw [List.length_map]; exact hm)
    go_wp2_with fail
    refine gr_panic _ _ w.heap.size 1 0 w7 _ _ _ rfl rfl rfl HX7.out ?_
    intro W' hb
    exact ⟨HB0.out.trans hb, .inl ⟨1, 0, HP.out, rfl⟩⟩
  · have hmz : ¬ (60 : Int) < (r.length : Int) := by omega
    have x0 := HX7.out.c0
    have x1 := HX7.out.c1
    have x2 := HX7.out.c2
    have x3 := HX7.out.f0
    have x4 := HX7.out.f1
    have x5 := HX7.out.f2
    go_wp2_with fail
    have HK7 : ∀ b, w.heap.size + 1 + 1 + 1 ≤ b → (((w7.setCell ⟨w.heap.size, 0, none⟩ (.slice a7 r.length cap7)).setCell ⟨w.heap.size + 1, 0, none⟩ (.int .i64 0)).setCell ⟨w.heap.size + 1 + 1, 0, none⟩ (.int .i64 0)).heap[b]? = w7.heap[b]? := fun b hb => by
      rw [Below.heap_setCell _ _ _ _ (show b ≠ w.heap.size + 1 + 1 by omega), Below.heap_setCell _ _ _ _ (show b ≠ w.heap.size + 1 by omega), Below.heap_setCell _ _ _ _ (show b ≠ w.heap.size by omega)]
    have HS7 : (((w7.setCell ⟨w.heap.size, 0, none⟩ (.slice a7 r.length cap7)).setCell ⟨w.heap.size + 1, 0, none⟩ (.int .i64 0)).setCell ⟨w.heap.size + 1 + 1, 0, none⟩ (.int .i64 0)).heap.size = w7.heap.size := by simp
    have HB8 : Below w.heap.size w (((w7.setCell ⟨w.heap.size, 0, none⟩ (.slice a7 r.length cap7)).setCell ⟨w.heap.size + 1, 0, none⟩ (.int .i64 0)).setCell ⟨w.heap.size + 1 + 1, 0, none⟩ (.int .i64 0)) := ((HB0.out.setCell (p := ⟨w.heap.size, 0, none⟩) (Nat.le_refl _) _).setCell (p := ⟨w.heap.size + 1, 0, none⟩) (show w.heap.size ≤ w.heap.size + 1 by omega) _).setCell (p := ⟨w.heap.size + 1 + 1, 0, none⟩) (show w.heap.size ≤ w.heap.size + 1 + 1 by omega) _
    have HX8 : Boxes w.heap.size (((w7.setCell ⟨w.heap.size, 0, none⟩ (.slice a7 r.length cap7)).setCell ⟨w.heap.size + 1, 0, none⟩ (.int .i64 0)).setCell ⟨w.heap.size + 1 + 1, 0, none⟩ (.int .i64 0)) (.slice a7 r.length cap7) 0 0 := by
      have hl := HX7.out.lt
      refine ⟨?_, ?_, ?_, ?_, ?_, ?_, ?_⟩ <;> simp [*, go_sem]
    refine gr_ret _ _ w.heap.size a7 r.length cap7 0 0 _ rfl rfl rfl HX8 ?_
    generalize (((w7.setCell ⟨w.heap.size, 0, none⟩ (.slice a7 r.length cap7)).setCell ⟨w.heap.size + 1, 0, none⟩ (.int .i64 0)).setCell ⟨w.heap.size + 1 + 1, 0, none⟩ (.int .i64 0)) = w8 at *
    intro W' hb
    have h3 := HS3.out
    have h4 := HS4.out
    refine ⟨HB8.trans (hb.mono HB8.size), .inr ⟨a7, cap7, r, ⟨hle, ⟨_, HRd.out, HON.out⟩, by omega, ⟨w4.heap.size, by omega, (HO7.out.keep (by omega) fun b h1 _ => HK7 b (by omega)).below hb, fun y hy => (HTX.out y (HSU.out y hy)).2⟩, ⟨ql, fun y hy => ?_, HSP.out⟩, fun y hy => HG.out y (HSU.out y hy), fun y hy => ?_⟩, rfl⟩⟩
    · obtain ⟨q, hq, e⟩ := List.mem_map.1 (HSU.out y hy)
      exact ⟨q, hq, e.symm⟩
    · have ht := (HTX.out y (HSU.out y hy)).1 w7 HB7.out
      have k : ∀ {a : Option Addr} {len : Nat} {bs : List Int}, Nw w7 W3.heap.size a len bs → Nw W' w.heap.size a len bs := fun h => ((h.keep (by omega) fun b h1 _ => HK7 b (by omega)).below hb).mono (by omega)
      exact ⟨k ht.1, k ht.2.1, k ht.2.2⟩
end Go.Proofs.YtiodiooaaojbhaaGreatDoor

/- ReC -/
namespace Go.Proofs.YtiodiooaaojbhaaGreatDoor
open Go.RowKit Go.Deep
set_option maxRecDepth 100000

def allP : List Int → Bool
  | [] => true
  | b :: r => (ofPiece b || (b == 46 && digitHd r)) && allP r
theorem digitHd_app {r x : List Int} (h : digitHd r = true) : digitHd (r ++ x) = true := by
  cases r with
  | nil => cases h
  | cons d r => exact h
theorem pieceLen_app : ∀ {l x : List Int}, allP l = true → pieceLen (l ++ x) = l.length + pieceLen x
  | [], x, _ => by simp
  | b :: r, x, h => by
    simp only [allP, Bool.and_eq_true] at h
    rw [List.cons_append, pieceLen, if_pos, pieceLen_app h.2, List.length_cons]
    · omega
    · rcases Bool.or_eq_true_iff.1 h.1 with h1 | h1
      · rw [h1]; rfl
      · simp only [Bool.and_eq_true] at h1
        rw [h1.1, digitHd_app h1.2]
        simp
theorem allP_digits : ∀ {l : List Int}, (∀ d ∈ l, 48 ≤ d ∧ d ≤ 57) → allP l = true
  | [], _ => rfl
  | b :: r, h => by
    have hb := h b (List.mem_cons_self ..)
    rw [allP, allP_digits (fun d hd => h d (List.mem_cons_of_mem _ hd))]
    simp [ofPiece, digit, hb]
theorem allP_frac : ∀ {a f : List Int}, (∀ d ∈ a, 48 ≤ d ∧ d ≤ 57) → (∀ d ∈ f, 48 ≤ d ∧ d ≤ 57) → f ≠ [] → allP (a ++ 46 :: f) = true
  | [], f, _, hf, h0 => by
    rw [List.nil_append, allP, allP_digits hf]
    cases f with
    | nil => exact absurd rfl h0
    | cons d f =>
      have hd := hf d (List.mem_cons_self ..)
      simp [digitHd, digit, hd]
  | b :: r, f, h, hf, h0 => by
    have hb := h b (List.mem_cons_self ..)
    rw [List.cons_append, allP, allP_frac (fun d hd => h d (List.mem_cons_of_mem _ hd)) hf h0]
    simp [ofPiece, digit, hb]
theorem allP_name {l : List Int} (h : ∀ b ∈ l, (letter b || digit b) = true) : allP l = true := by
  induction l with
  | nil => rfl
  | cons b r ih =>
    have hb := h b (List.mem_cons_self ..)
    rw [allP, ih fun d hd => h d (List.mem_cons_of_mem _ hd)]
    simp only [Bool.or_eq_true] at hb
    simp only [ofPiece, Bool.and_true, Bool.or_eq_true]
    rcases hb with hb | hb
    · exact .inl (.inl (.inl hb))
    · exact .inl (.inr hb)
theorem frac_dgs (n : Int) (s : Nat) : ∀ d ∈ (List.replicate (s - (digitsL (n % p10 s).toNat).length) (48 : Int) ++ digitsL (n % p10 s).toNat), 48 ≤ d ∧ d ≤ 57 := by
  intro d hd
  rcases List.mem_append.1 hd with hd | hd
  · rw [(List.mem_replicate.1 hd).2]
    omega
  · exact digitsL_mem _ d hd
theorem allP_num (m : Int) (k : Nat) : allP (numL m k) = true := by
  unfold numL
  by_cases hk : k = 0
  · rw [if_pos hk, List.append_nil]
    exact allP_digits (digitsL_mem _)
  · rw [if_neg hk]
    refine allP_frac (digitsL_mem _) (frac_dgs m k) fun e => ?_
    have := frac_len m k (by omega)
    rw [e] at this
    simp at this
    omega
theorem allP_tail {b : Int} {r : List Int} (h : allP (b :: r) = true) : allP r = true := by
  simp only [allP, Bool.and_eq_true] at h
  exact h.2
theorem piece_gap (x : List Int) : pieceLen (32 :: x) = 0 := by
  rw [pieceLen, if_neg]
  simp [ofPiece, letter, great, digit]
theorem piece_gt (x : List Int) : pieceLen (62 :: x) = 0 := by
  rw [pieceLen, if_neg]
  simp [ofPiece, letter, great, digit]
theorem tokOf_num {n s : Int} (ho : numOk n s = true) (x : List Int) : tokOf (showL 3 n s [] ++ 32 :: x) = some ⟨0, showL 3 n s [], ⟨3, [], n, s⟩⟩ := by
  have hN : numOf (showL 3 n s []) = some (n, s) := numOf_some.2 ⟨ho, rfl⟩
  have key : ∀ b r, showL 3 n s [] = b :: r → allP r = true → (digit b || (b == 45 && digitHd r)) = true → tokOf (showL 3 n s [] ++ 32 :: x) = some ⟨0, showL 3 n s [], ⟨3, [], n, s⟩⟩ := by
    intro b r e hr hd
    rw [e] at hN ⊢
    have hd2 : (digit b || (b == 45 && digitHd (r ++ 32 :: x))) = true := by
      rcases Bool.or_eq_true_iff.1 hd with h1 | h1
      · rw [h1]; rfl
      · simp only [Bool.and_eq_true] at h1
        rw [h1.1, digitHd_app h1.2]
        simp
    have hp : pieceLen (r ++ 32 :: x) = r.length := by rw [pieceLen_app hr, piece_gap]; rfl
    rw [List.cons_append, tokOf, if_pos hd2, hp, List.take_left, hN]
    rfl
  by_cases hn : n < 0
  · obtain ⟨d, r, e, h1, h2⟩ := num_head (-n) s.toNat
    refine key 45 (numL (-n) s.toNat) (by simp [showL, hn]) (allP_num _ _) ?_
    rw [e]
    simp [digitHd, digit, h1, h2]
  · obtain ⟨d, r, e, h1, h2⟩ := num_head n s.toNat
    have e2 : showL 3 n s [] = d :: r := by rw [← e]; simp [showL, hn]
    refine key d r e2 ?_ (by simp [digit, h1, h2])
    have := allP_num n s.toNat
    rw [e] at this
    exact allP_tail this
/-- What is shown of a term that may be, ahead of a gap, is its token. -/
theorem tokOf_shown {t : TD} (ho : t.ok = true) (x : List Int) : tokOf (showL t.k t.n t.s t.bs ++ 32 :: x) = some ⟨0, showL t.k t.n t.s t.bs, t⟩ := by
  obtain ⟨k, bs, n, s⟩ := t
  replace ho : termOk k bs n s = true := ho
  show tokOf (showL k n s bs ++ 32 :: x) = some ⟨0, showL k n s bs, ⟨k, bs, n, s⟩⟩
  unfold termOk at ho
  split at ho
  · rename_i hk
    subst hk
    simp only [Bool.and_eq_true, beq_iff_eq] at ho
    obtain ⟨⟨h1, rfl⟩, rfl⟩ := ho
    have h2 := h1
    simp only [nameOk, Bool.and_eq_true, List.all_eq_true] at h2
    have hp : pieceLen (bs ++ 62 :: 32 :: x) = bs.length := by rw [pieceLen_app (allP_name h2.2), piece_gt]; rfl
    have e : showL 0 0 0 bs = 60 :: (bs ++ [62]) := by simp [showL]
    rw [e]
    rw [List.cons_append, List.append_assoc, List.singleton_append, tokOf, if_neg (by simp [digit]), if_pos, hp, List.take_left]
    rw [hp, List.take_left, List.drop_left, h1]
    rfl
  split at ho
  · rename_i hk
    subst hk
    simp at ho
    obtain ⟨⟨⟨rfl, h2⟩, h3⟩, rfl⟩ := ho
    have e : showL 1 n 0 [] = 95 :: 58 :: digitsL n.toNat := by simp [showL]
    have hp : pieceLen (digitsL n.toNat ++ 32 :: x) = (digitsL n.toNat).length := by rw [pieceLen_app (allP_digits (digitsL_mem _)), piece_gap]; rfl
    have hb : blankOf (digitsL n.toNat) = some n.toNat := blankOf_some.2 ⟨by omega, rfl⟩
    rw [e]
    rw [List.cons_append, List.cons_append, tokOf, if_neg (by simp [digit]), if_neg (by simp), if_neg (by simp), if_pos (by simp)]
    simp only [List.drop_succ_cons, List.drop_zero]
    rw [hp, List.take_left, hb]
    simp
    omega
  split at ho
  · rename_i hk
    subst hk
    simp only [Bool.and_eq_true, beq_iff_eq] at ho
    obtain ⟨⟨h1, rfl⟩, rfl⟩ := ho
    have e : showL 2 0 0 bs = 34 :: (esc bs ++ [34]) := by simp [showL]
    rw [e]
    rw [List.cons_append, List.append_assoc, List.singleton_append, tokOf, if_neg (by simp [digit]), if_neg (by simp), if_pos rfl, quoteF_esc]
    have ht : (esc bs ++ 34 :: 32 :: x).take ((esc bs).length + 1) = esc bs ++ [34] := by
      rw [show esc bs ++ 34 :: 32 :: x = (esc bs ++ [34]) ++ 32 :: x by simp, List.take_left' (by simp)]
    simp [h1, ht]
  split at ho
  · rename_i hk
    subst hk
    simp only [Bool.and_eq_true, beq_iff_eq] at ho
    obtain ⟨h0, h1⟩ := ho
    have : bs = [] := List.eq_nil_of_length_eq_zero h0
    subst this
    exact tokOf_num h1 x
  · cases ho
end Go.Proofs.YtiodiooaaojbhaaGreatDoor

/- ReD -/
namespace Go.Proofs.YtiodiooaaojbhaaGreatDoor
open Go.RowKit Go.Deep
set_option maxRecDepth 100000

def TD.sh (t : TD) : List Int := showL t.k t.n t.s t.bs
theorem tok_gap {b : Int} {r : List Int} (h : gapB b = true) : tokOf (b :: r) = none := by
  have hb : b = 32 ∨ b = 10 := by simpa [gapB] using h
  rcases hb with rfl | rfl <;> simp [tokOf, digit, great, signB]
theorem lexR_sh {t : TD} (ho : t.ok = true) (x : List Int) (p : Nat) : lexR (t.sh ++ 32 :: x) p = (lexR x (p + t.sh.length + 1)).map ((p, ⟨0, t.sh, t⟩) :: ·) := by
  have ht := tokOf_shown ho x
  have e : showL t.k t.n t.s t.bs = t.sh := rfl
  rw [e] at ht
  have h1 := (tokOf_raw ht).1
  simp only at h1
  have hd : (t.sh ++ 32 :: x).drop t.sh.length = 32 :: x := List.drop_left
  have hl : ∀ l : List Int, l = t.sh ++ 32 :: x → lexR l p = (lexR x (p + t.sh.length + 1)).map ((p, ⟨0, t.sh, t⟩) :: ·) := by
    intro l hl
    cases l with
    | nil =>
      have := congrArg List.length hl
      simp at this
    | cons b r =>
      rw [← hl] at ht hd
      have hg : gapB b = false := by
        cases hg : gapB b with
        | false => rfl
        | true => rw [tok_gap hg] at ht; cases ht
      rw [lexR_tok p hg ht]
      simp only
      rw [hd, lexR_gap _ (by decide)]
  exact hl _ rfl
theorem lexR_stop (x : List Int) (p : Nat) : lexR (46 :: x) p = (lexR x (p + 1)).map ((p, ⟨3, [46], td0⟩) :: ·) := by
  have ht : tokOf (46 :: x) = some ⟨3, [46], td0⟩ := by simp [tokOf, digit, great, signB]
  rw [lexR_tok p (by decide) ht]
  rfl
theorem lexR_line {s p o : TD} (hs : s.ok = true) (hp : p.ok = true) (ho : o.ok = true) (x : List Int) (q : Nat) :
    lexR (s.sh ++ 32 :: (p.sh ++ 32 :: (o.sh ++ 32 :: 46 :: x))) q = (lexR x (q + s.sh.length + 1 + p.sh.length + 1 + o.sh.length + 1 + 1)).map fun l => (q, ⟨0, s.sh, s⟩) :: (q + s.sh.length + 1, ⟨0, p.sh, p⟩) :: (q + s.sh.length + 1 + p.sh.length + 1, ⟨0, o.sh, o⟩) :: (q + s.sh.length + 1 + p.sh.length + 1 + o.sh.length + 1, ⟨3, [46], td0⟩) :: l := by
  rw [lexR_sh hs, lexR_sh hp, lexR_sh ho, lexR_stop]
  cases lexR x (q + s.sh.length + 1 + p.sh.length + 1 + o.sh.length + 1 + 1) <;> rfl
/-- A triple that may be. -/
def okT (x : T3) : Prop := x.1.ok = true ∧ x.2.1.ok = true ∧ x.2.2.ok = true ∧ x.1.k ≤ 1 ∧ x.2.1.k = 0
theorem triP_line {x : T3} (h : okT x) (q1 q2 q3 q4 : Nat) (l : Toks) (e : Nat) : triP ((q1, ⟨0, x.1.sh, x.1⟩) :: (q2, ⟨0, x.2.1.sh, x.2.1⟩) :: (q3, ⟨0, x.2.2.sh, x.2.2⟩) :: (q4, ⟨3, [46], td0⟩) :: l) e = .ok (x, l) := by
  obtain ⟨h1, h2, _, h4, h5⟩ := h
  unfold TD.ok at h1 h2
  rw [h5] at h2
  simp [triP, takeP, okSubj, okProp, okTerm, okStop, h1, h2, h4, h5]
theorem readR_line {x : T3} (h : okT x) (q1 q2 q3 q4 : Nat) (l : Toks) (e : Nat) : readR ((q1, ⟨0, x.1.sh, x.1⟩) :: (q2, ⟨0, x.2.1.sh, x.2.1⟩) :: (q3, ⟨0, x.2.2.sh, x.2.2⟩) :: (q4, ⟨3, [46], td0⟩) :: l) e = (readR l e).map (x :: ·) := readR_more (triP_line h q1 q2 q3 q4 l e)
/-- A text that writes triples that may be, few enough, is read so. -/
theorem GrRes.read {bs : List Int} {len : Nat} {w w' : World} {e : Ending} {ts l0 : List T3} (h : GrRes bs len w e w') (hl : len ≤ 3000) (hr : Reads bs len ts) (hf : ∀ t ∈ ts, fine3 t) (ho : OnceT ts l0) (hm : l0.length ≤ 60) :
    Below w.heap.size w w' ∧ ∃ a cap r, ReadWell bs len w w' a cap r ∧ r.map G1.td3 = l0 ∧ e = .returned (.tuple #[.agg #[.slice a r.length cap], .int .i64 0, .int .i64 0]) := by
  obtain ⟨toks, hx, hy⟩ := hr
  have uni : ∀ l ts', Reads bs len ts' → OnceT ts' l → l = l0 := fun l ts' ⟨toks', hx', hy'⟩ ho' => by
    rw [hx] at hx'
    cases hx'
    rw [hy] at hy'
    cases hy'
    exact asc_unique ordP_cmpD l l0 (fun x h => hf x ((ho'.mem x).1 h)) (fun x h => hf x ((ho.mem x).1 h)) ho'.asc ho.asc fun x => (ho'.mem x).trans (ho.mem x).symm
  refine ⟨h.1, ?_⟩
  rcases h.2 with ⟨c, p, hR, rfl⟩ | ⟨a, cap, r, hR, rfl⟩
  · exfalso
    cases hR with
    | long h => omega
    | byte p h hl => rw [hx] at hl; cases hl
    | form toks' a h hl hr =>
      rw [hx] at hl
      cases hl
      rw [hy] at hr
      cases hr
    | many ts' l h hr ho' hm' =>
      rw [uni l ts' hr ho'] at hm'
      omega
  · obtain ⟨ts', hr', ho'⟩ := hR.ts
    exact ⟨a, cap, r, hR, uni _ _ hr' ho', rfl⟩
def tdA : TD := ⟨0, [97], 0, 0⟩
def tdP : TD := ⟨0, [112], 0, 0⟩
theorem shows_read {t : TD} (ho : t.ok = true) (len : Nat) : Reads ([60, 97, 62, 32, 60, 112, 62, 32] ++ (t.sh ++ [32, 46])) len [(tdA, tdP, t)] := by
  have e : ([60, 97, 62, 32, 60, 112, 62, 32] ++ (t.sh ++ [32, 46]) : List Int) = tdA.sh ++ 32 :: (tdP.sh ++ 32 :: (t.sh ++ 32 :: 46 :: [])) := rfl
  rw [e]
  refine ⟨_, lexR_line (s := tdA) (p := tdP) (by decide) (by decide) ho [] 0, ?_⟩
  refine (readR_line (x := (tdA, tdP, t)) ⟨show tdA.ok = true by decide, show tdP.ok = true by decide, ho, show tdA.k ≤ 1 by decide, show tdP.k = 0 by decide⟩ _ _ _ _ [] len).trans ?_
  rw [readR_nil]
  rfl
theorem shows_once (x : T3) : OnceT [x] [x] := ⟨by simp, fun t => Iff.rfl⟩
end Go.Proofs.YtiodiooaaojbhaaGreatDoor

/- ReH -/
namespace Go.Proofs.YtiodiooaaojbhaaGreatDoor
open Go.RowKit Go.Deep
set_option maxRecDepth 100000

theorem lexF_err : ∀ (f : Nat) (l : List Int) (p q : Nat), lexF f l p = .error q → q < p + l.length
  | 0, l, p, q, h => by cases h
  | f + 1, [], p, q, h => by cases h
  | f + 1, b :: r, p, q, h => by
    rw [lexF] at h
    split at h
    · have := lexF_err f r (p + 1) q h
      simp
      omega
    · cases ht : tokOf (b :: r) with
      | none =>
        rw [ht] at h
        cases h
        simp
      | some t =>
        rw [ht] at h
        simp only at h
        have hr := tokOf_raw ht
        cases hx : lexF f ((b :: r).drop t.raw.length) (p + t.raw.length) with
        | ok us => rw [hx] at h; cases h
        | error e =>
          rw [hx] at h
          cases h
          have := lexF_err f _ _ q hx
          rw [List.length_drop] at this
          omega
theorem takeP_err {ok : PT → Bool} {l : Toks} {e a : Nat} (h : takeP ok l e = .error a) : a = e ∨ ∃ x ∈ l, a = x.1 := by
  cases l with
  | nil => cases h; exact .inl rfl
  | cons x r =>
    simp only [takeP] at h
    split at h
    · cases h
    · cases h
      exact .inr ⟨x, List.mem_cons_self .., rfl⟩
theorem takeP_sub {ok : PT → Bool} {l r : Toks} {e : Nat} {t : PT} (h : takeP ok l e = .ok (t, r)) : ∃ p, l = (p, t) :: r ∧ ok t = true := by
  cases l with
  | nil => cases h
  | cons x l =>
    simp only [takeP] at h
    split at h
    · rename_i ho
      simp only [Except.ok.injEq, Prod.mk.injEq] at h
      obtain ⟨h1, rfl⟩ := h
      rw [← h1]
      exact ⟨x.1, rfl, ho⟩
    · cases h
theorem triP_err {l : Toks} {e a : Nat} (h : triP l e = .error a) : a = e ∨ ∃ x ∈ l, a = x.1 := by
  unfold triP at h
  split at h
  · rename_i h1
    cases h
    exact takeP_err h1
  · rename_i h1
    obtain ⟨p1, rfl, _⟩ := takeP_sub h1
    split at h
    · rename_i h2
      cases h
      exact (takeP_err h2).imp id fun ⟨x, hx, e⟩ => ⟨x, List.mem_cons_of_mem _ hx, e⟩
    · rename_i h2
      obtain ⟨p2, rfl, _⟩ := takeP_sub h2
      split at h
      · rename_i h3
        cases h
        exact (takeP_err h3).imp id fun ⟨x, hx, e⟩ => ⟨x, List.mem_cons_of_mem _ (List.mem_cons_of_mem _ hx), e⟩
      · rename_i h3
        obtain ⟨p3, rfl, _⟩ := takeP_sub h3
        split at h
        · rename_i h4
          cases h
          exact (takeP_err h4).imp id fun ⟨x, hx, e⟩ => ⟨x, List.mem_cons_of_mem _ (List.mem_cons_of_mem _ (List.mem_cons_of_mem _ hx)), e⟩
        · cases h
theorem triP_form {l r : Toks} {e : Nat} {x : T3} (h : triP l e = .ok (x, r)) : ∃ p1 p2 p3 p4 s p o d, l = (p1, s) :: (p2, p) :: (p3, o) :: (p4, d) :: r ∧ x = (s.td, p.td, o.td) ∧ okSubj s = true ∧ okProp p = true ∧ okTerm o = true ∧ okStop d = true := by
  unfold triP at h
  split at h
  · cases h
  · rename_i h1
    obtain ⟨p1, rfl, k1⟩ := takeP_sub h1
    split at h
    · cases h
    · rename_i h2
      obtain ⟨p2, rfl, k2⟩ := takeP_sub h2
      split at h
      · cases h
      · rename_i h3
        obtain ⟨p3, rfl, k3⟩ := takeP_sub h3
        split at h
        · cases h
        · rename_i h4
          obtain ⟨p4, rfl, k4⟩ := takeP_sub h4
          simp only [Except.ok.injEq, Prod.mk.injEq] at h
          obtain ⟨rfl, rfl⟩ := h
          exact ⟨p1, p2, p3, p4, _, _, _, _, rfl, rfl, k1, k2, k3, k4⟩
theorem readF_err : ∀ (f : Nat) (l : Toks) (e a : Nat), readF f l e = .error a → a = e ∨ ∃ x ∈ l, a = x.1
  | 0, _, _, _, h => by cases h
  | _ + 1, [], _, _, h => by cases h
  | f + 1, b :: r, e, a, h => by
    rw [readF] at h
    cases ht : triP (b :: r) e with
    | error q =>
      rw [ht] at h
      cases h
      exact triP_err ht
    | ok q =>
      obtain ⟨x, s⟩ := q
      rw [ht] at h
      simp only at h
      cases hx : readF f s e with
      | ok us => rw [hx] at h; cases h
      | error q =>
        rw [hx] at h
        cases h
        obtain ⟨p1, p2, p3, p4, s1, s2, s3, s4, e1, _⟩ := triP_form ht
        rw [e1]
        exact (readF_err f s e a hx).imp id fun ⟨x, hx, e⟩ => ⟨x, List.mem_cons_of_mem _ (List.mem_cons_of_mem _ (List.mem_cons_of_mem _ (List.mem_cons_of_mem _ hx))), e⟩
/-- A place that is answered lies in the text, or at its end. -/
theorem Refuses.place {bs : List Int} {len : Nat} {c p : Int} (h : Refuses bs len c p) (hl : bs.length = len) : 1 ≤ c ∧ c ≤ 3 ∧ 0 ≤ p ∧ p ≤ len := by
  cases h with
  | long h => omega
  | byte q h hx =>
    have := lexF_err _ _ _ _ hx
    omega
  | form toks a h hx hr =>
    have hm := (lexR_may hx).1
    have : a ≤ len := by
      rcases readF_err _ _ _ _ hr with h | ⟨x, hx, h⟩
      · omega
      · have := (hm x hx).2
        omega
    omega
  | many ts l h _ _ _ => omega
/-- The text of a graph. -/
def lineT (x : T3) : List Int := x.1.sh ++ 32 :: (x.2.1.sh ++ 32 :: (x.2.2.sh ++ [32, 46, 10]))
def linesT : List T3 → List Int
  | [] => []
  | x :: r => lineT x ++ linesT r
end Go.Proofs.YtiodiooaaojbhaaGreatDoor

/- GtxC -/
namespace Go.Proofs.YtiodiooaaojbhaaGreatDoor
open Go.RowKit Go.Deep
set_option maxRecDepth 100000

/-- What GraphText answers. -/
def GtRes (w : World) (ok : Bool) (L : List Int) (e : Ending) (w' : World) : Prop := ∃ a cap, e = .returned (.tuple #[.slice a L.length cap, .bool ok]) ∧ Nw w' w.heap.size a L.length L ∧ Below w.heap.size w w'

end Go.Proofs.YtiodiooaaojbhaaGreatDoor

/- ShwK -/
namespace Go.Proofs.YtiodiooaaojbhaaGreatDoor
open Go.RowKit Go.Deep
set_option maxRecDepth 100000

/-- A text that is marked from k on. -/
def Marked (w : World) (a : Option Addr) (len : Nat) (k : Int) : Prop := len = 0 ∨ ∃ g, a = some ⟨g, 0, none⟩ ∧ g < w.heap.size ∧ ∀ i, i < len → w.cell? ⟨g, i, none⟩ = some (.int .u8 ((k + (i : Nat)) % 256))
theorem Marked.below {w w' : World} {a : Option Addr} {len : Nat} {k : Int} (h : Marked w a len k) (hb : Below w.heap.size w w') : Marked w' a len k := by
  rcases h with h | ⟨g, ha, hl, hc⟩
  · exact .inl h
  · exact .inr ⟨g, ha, Nat.lt_of_lt_of_le hl hb.size, fun i hi => (hb.cell (p := ⟨g, i, none⟩) hl).trans (hc i hi)⟩
theorem Nw.but {w w' : World} {B g len : Nat} {a : Option Addr} {bs : List Int} (h : Nw w B a len bs) (hb : But g w w') (hg : g < B) : Nw w' B a len bs := by
  rcases h with h | ⟨g', ha, hB, ho⟩
  · exact .inl h
  · exact .inr ⟨g', ha, hB, ho.but hb (by omega)⟩

end Go.Proofs.YtiodiooaaojbhaaGreatDoor

/- GtxE -/
namespace Go.Proofs.YtiodiooaaojbhaaGreatDoor
open Go.RowKit Go.Deep
set_option maxRecDepth 100000

theorem specGraphText_any (a : Option Addr) (n cap : Nat) (T U V : Nat → Tm) (bt bu bv : Nat → List Int) (w : World) (hn : n ≤ 1048576) (hf : AllFit n T U V) (hR : Rows w a n T U V) (h1 : Texts w n T bt) (h2 : Texts w n U bu) (h3 : Texts w n V bv) :
    Calls Tryz.prog 8 #[.agg #[.slice a n cap]] w fun e w' => GtRes w (graphOk n T U V bt bu bv) (textL n T U V bt bu bv) e w' := by
  have O := fun (w' : World) (hq : Below w.heap.size w w') => specGraphOk_any a n cap T U V bt bu bv w' hn hf (hR.below hq) (h1.below hq) (h2.below hq) (h3.below hq)
  cases hok : graphOk n T U V bt bu bv
  · have e : textL n T U V bt bu bv = [] := by simp [textL, hok]
    rw [e]
    rw [hok] at O
    clear hR h1 h2 h3 hf
    go_enter Tryz.func8, Tryz.ntmps8
    go_wp2_with fail
    refine (O _ (bl_a _)).mono ?_
    rintro e w1 ⟨rfl, hb1⟩
    have HB1 : Hid (Below w.heap.size w w1) := bl_trans (bl_a _) hb1
    clear hb1 O
    go_wp2_with fail
    go_ret2
    exact ⟨none, 0, rfl, Nw.nil _ _, HB1.out⟩
  · have e : textL n T U V bt bu bv = linesL T U V bt bu bv n := by simp [textL, hok]
    rw [e]
    rw [hok] at O
    obtain ⟨hn60, hst⟩ := graphOk_out hok
    have X := fun (w' : World) (hq : Below w.heap.size w w') => l2text_any a n cap T U V bt bu bv w' hn60 (hR.below hq) (h1.below hq) (h2.below hq) (h3.below hq) (fun i hi => stepOk_terms (hst i hi))
    clear hR h1 h2 h3 hf hok e hst
    generalize linesL T U V bt bu bv n = L at *
    go_enter Tryz.func8, Tryz.ntmps8
    go_wp2_with fail
    refine (O _ (bl_a _)).mono ?_
    rintro e w1 ⟨rfl, hb1⟩
    have hB1 := bl_trans (bl_a _) hb1
    have hbox : w1.cell? ⟨w.heap.size, 0, none⟩ = some (.slice a n cap) := (hb1.cell (p := ⟨w.heap.size, 0, none⟩) (by simp)).trans (by simp [go_sem])
    clear hb1 O
    go_wp2_with fail
    refine (X _ hB1).mono ?_
    intro e w2 hR
    have hR' := hR.later hB1
    clear hR X
    obtain ⟨x, cp, rfl, hr, hb⟩ := hR'
    have HR : Hid (Nw w2 w.heap.size x L.length L) := hr
    have HB : Hid (Below w.heap.size w w2) := hb
    clear hr hb
    go_wp2_with fail
    go_ret2
    exact ⟨x, cp, rfl, HR.out, HB.out⟩

end Go.Proofs.YtiodiooaaojbhaaGreatDoor

/- ReJ -/
namespace Go.Proofs.YtiodiooaaojbhaaGreatDoor
open Go.RowKit Go.Deep
set_option maxRecDepth 100000

/-- A row of triples of the call's own, as GraphText's contracts ask. -/
theorem rows_own {w : World} {C : Nat} {a : Option Addr} {cap : Nat} {r : List G1} (h : OwnG w C (.slice a r.length cap) r) : Rows w a r.length (fun i => (gA r i).t) (fun i => (gA r i).u) (fun i => (gA r i).v) := rows_gA h
theorem linesT_append (a b : List T3) : linesT (a ++ b) = linesT a ++ linesT b := by
  induction a with
  | nil => rfl
  | cons x r ih => rw [List.cons_append, linesT, linesT, ih, List.append_assoc]
theorem linesL_T (r : List G1) : ∀ k, k ≤ r.length → linesL (fun i => (gA r i).t) (fun i => (gA r i).u) (fun i => (gA r i).v) (fun i => (gA r i).bt) (fun i => (gA r i).bu) (fun i => (gA r i).bv) k = linesT ((r.take k).map G1.td3)
  | 0, _ => rfl
  | k + 1, hk => by
    rw [linesL, linesL_T r k (by omega), List.take_add_one, List.getElem?_eq_getElem (show k < r.length by omega), List.map_append, linesT_append]
    simp only [gA_at (show k < r.length by omega)]
    congr 1
    simp [linesT, lineT, lineL, G1.td3, TD.sh, Tm.show]
theorem graphOk_own {r : List G1} (hn : r.length ≤ 60) (hg : ∀ y ∈ r, y.good) (hs : (r.map G1.td3).Pairwise (fun x y => cmpD x y < 0)) : graphOk r.length (fun i => (gA r i).t) (fun i => (gA r i).u) (fun i => (gA r i).v) (fun i => (gA r i).bt) (fun i => (gA r i).bu) (fun i => (gA r i).bv) = true := by
  unfold graphOk
  rw [Bool.and_eq_true, List.all_eq_true]
  refine ⟨decide_eq_true hn, fun i hi => ?_⟩
  have hi : i < r.length := by simpa using hi
  unfold stepOk
  simp only [gA_at hi]
  rw [Bool.and_eq_true]
  refine ⟨(hg r[i] (List.getElem_mem hi)).2.2.2, ?_⟩
  by_cases h0 : i = 0
  · simp [h0]
  · have hp : i - 1 < r.length := by omega
    simp only [gA_at hp]
    rw [Bool.or_eq_true]
    right
    refine decide_eq_true ?_
    rw [tcmp3_td]
    have := List.pairwise_iff_getElem.1 hs (i - 1) i (by simpa using hp) (by simpa using hi) (by omega)
    simpa using this
/-- What the model's GraphText tells of it. -/
theorem text_ownS {w : World} {C : Nat} {a : Option Addr} {cap : Nat} {r : List G1} (h : OwnG w C (.slice a r.length cap) r) (hn : r.length ≤ 60) (hg : ∀ y ∈ r, y.good) (hl : ∀ y ∈ r, y.lies w) (hs : (r.map G1.td3).Pairwise (fun x y => cmpD x y < 0)) : Calls Tryz.prog 8 #[.agg #[.slice a r.length cap]] w (GtRes w true (linesT (r.map G1.td3))) := by
  have hk := graphOk_own hn hg hs
  have ht := linesL_T r r.length (Nat.le_refl _)
  rw [List.take_length] at ht
  have hf : AllFit r.length (fun i => (gA r i).t) (fun i => (gA r i).u) (fun i => (gA r i).v) := fun i hi => by
    have := hg r[i] (List.getElem_mem hi)
    simp only [gA_at hi]
    exact ⟨this.1, this.2.1, this.2.2.1⟩
  have h1 : Texts w r.length (fun i => (gA r i).t) (fun i => (gA r i).bt) := fun i hi => by
    simp only [gA_at hi]
    exact (hl r[i] (List.getElem_mem hi)).1
  have h2 : Texts w r.length (fun i => (gA r i).u) (fun i => (gA r i).bu) := fun i hi => by
    simp only [gA_at hi]
    exact (hl r[i] (List.getElem_mem hi)).2.1
  have h3 : Texts w r.length (fun i => (gA r i).v) (fun i => (gA r i).bv) := fun i hi => by
    simp only [gA_at hi]
    exact (hl r[i] (List.getElem_mem hi)).2.2
  have e : textL r.length (fun i => (gA r i).t) (fun i => (gA r i).u) (fun i => (gA r i).v) (fun i => (gA r i).bt) (fun i => (gA r i).bu) (fun i => (gA r i).bv) = linesT (r.map G1.td3) := by
    unfold textL
    rw [if_pos hk, ht]
  have := specGraphText_any a r.length cap _ _ _ _ _ _ w (by omega) hf (rows_own h) h1 h2 h3
  rw [hk, e] at this
  exact this
end Go.Proofs.YtiodiooaaojbhaaGreatDoor

/- ReK -/
namespace Go.Proofs.YtiodiooaaojbhaaGreatDoor
open Go.RowKit Go.Deep
set_option maxRecDepth 100000

theorem G1.good.okT {y : G1} (h : y.good) : okT y.td3 := by
  have h := h.2.2.2
  unfold tripleOk at h
  simp only [Bool.and_eq_true, decide_eq_true_eq, beq_iff_eq] at h
  exact ⟨h.1.1.1.1, h.1.1.1.2, h.1.1.2, h.1.2, h.2⟩
theorem okT.fine {x : T3} (h : okT x) : fine3 x := ⟨⟨h.1, byt_of_ok h.1⟩, ⟨h.2.1, byt_of_ok h.2.1⟩, h.2.2.1, byt_of_ok h.2.2.1⟩
theorem OnceT.self {l : List T3} (h : l.Pairwise (fun x y => cmpD x y < 0)) : OnceT l l := ⟨h, fun _ => Iff.rfl⟩
theorem ReadWell.asc {bs : List Int} {len : Nat} {w w' : World} {a : Option Addr} {cap : Nat} {r : List G1} (h : ReadWell bs len w w' a cap r) : (r.map G1.td3).Pairwise (fun x y => cmpD x y < 0) := by
  obtain ⟨ts, _, ho⟩ := h.ts
  exact ho.asc
theorem ReadWell.ok {bs : List Int} {len : Nat} {w w' : World} {a : Option Addr} {cap : Nat} {r : List G1} (h : ReadWell bs len w w' a cap r) : ∀ x ∈ r.map G1.td3, okT x := fun x hx => by
  obtain ⟨y, hy, rfl⟩ := List.mem_map.1 hx
  exact (h.good y hy).1.okT
end Go.Proofs.YtiodiooaaojbhaaGreatDoor

/- ReP -/
namespace Go.Proofs.YtiodiooaaojbhaaGreatDoor
open Go.RowKit Go.Deep
set_option maxRecDepth 100000

theorem ReadWell.lies {bs : List Int} {len : Nat} {w w' : World} {a : Option Addr} {cap : Nat} {r : List G1} (h : ReadWell bs len w w' a cap r) : ∀ y ∈ r, y.lies w' := fun y hy => ⟨(h.txt y hy).1.bs, (h.txt y hy).2.1.bs, (h.txt y hy).2.2.bs⟩
theorem G1.lies.below {w w' : World} {y : G1} (h : y.lies w) (hb : Below w.heap.size w w') : y.lies w' := ⟨h.1.below hb, h.2.1.below hb, h.2.2.below hb⟩
/-- What the model's GraphText tells of a graph that was read. -/
theorem read_textS {bs : List Int} {len : Nat} {w w' W : World} {a : Option Addr} {cap : Nat} {r : List G1} (h : ReadWell bs len w w' a cap r) (hb : Below w'.heap.size w' W) : Calls Tryz.prog 8 #[.agg #[.slice a r.length cap]] W (GtRes W true (linesT (r.map G1.td3))) := by
  obtain ⟨C, _, ho, _⟩ := h.own
  exact text_ownS (ho.below hb) h.few (fun y hy => (h.good y hy).1) (fun y hy => (h.lies y hy).below hb) h.asc
end Go.Proofs.YtiodiooaaojbhaaGreatDoor
