/- Texts put together: ReB ReD ReH -/
import Derived.Test.YtoclingolfdfeaaGreatDoorMk24
/- ReB -/
namespace Go.Proofs.YtoclingolfdfeaaGreatDoor
open Go.RowKit Go.Deep Go.Sort Go.Lib
set_option maxRecDepth 100000

/-- The triples that a text writes, in its order. -/
def Reads (bs : List Int) (len : Nat) (ts : List T3) : Prop := ∃ toks, lexR bs 0 = .ok toks ∧ readR toks len = .ok ts
/-- The same triples, each one once, in order. -/
structure OnceT (ts l : List T3) : Prop where
  asc : l.Pairwise (fun x y => cmpD x y < 0)
  mem : ∀ t, t ∈ l ↔ t ∈ ts
/-- What is answered where a text is refused. -/
inductive Refuses (bs : List Int) (len : Nat) : Int → Int → Prop
  | long (h : 3000 < len) : Refuses bs len 1 0
  | byte (p : Nat) (h : len ≤ 3000) (hl : lexR bs 0 = .error p) : Refuses bs len 2 p
  | form (toks : Toks) (a : Nat) (h : len ≤ 3000) (hl : lexR bs 0 = .ok toks) (hr : readR toks len = .error a) : Refuses bs len 3 a
  | many (ts l : List T3) (h : len ≤ 3000) (hr : Reads bs len ts) (ho : OnceT ts l) (hm : 60 < l.length) : Refuses bs len 1 0
def G1.nw (y : G1) (w : World) (B : Nat) : Prop := Nw w B y.t.a y.t.len y.bt ∧ Nw w B y.u.a y.u.len y.bu ∧ Nw w B y.v.a y.v.len y.bv
def G1.ahead (y : G1) (C : Nat) : Prop := ∀ p, y.t.a = some p ∨ y.u.a = some p ∨ y.v.a = some p → p.block < C
/-- What is answered where a text is read. -/
structure ReadWell (bs : List Int) (len : Nat) (w w' : World) (a : Option Addr) (cap : Nat) (r : List G1) : Prop where
  le : len ≤ 3000
  ts : ∃ ts, Reads bs len ts ∧ OnceT ts (r.map G1.td3)
  few : r.length ≤ 60
  own : ∃ C, w.heap.size ≤ C ∧ OwnG w' C (.slice a r.length cap) r ∧ ∀ y ∈ r, y.ahead C
  sep : ∃ ql : List Q3, (∀ y ∈ r, ∃ q ∈ ql, y = q.g) ∧ (ql.flatMap Q3.tvs).Pairwise Apart
  good : ∀ y ∈ r, y.good ∧ fine3 y.td3
  txt : ∀ y ∈ r, y.nw w' w.heap.size
def GrRes (bs : List Int) (len : Nat) (w : World) (e : Ending) (w' : World) : Prop :=
  Below w.heap.size w w' ∧ ((∃ c p, Refuses bs len c p ∧ e = .returned (.tuple #[.agg #[.slice none 0 0], .int .i64 c, .int .i64 p])) ∨ ∃ a cap r, ReadWell bs len w w' a cap r ∧ e = .returned (.tuple #[.agg #[.slice a r.length cap], .int .i64 0, .int .i64 0]))
theorem OwnG.keep {w w' : World} {B : Nat} {v : Value} {l : List G1} (h : OwnG w B v l) (hs : w.heap.size ≤ w'.heap.size) (hk : ∀ b, B ≤ b → b < w.heap.size → w'.heap[b]? = w.heap[b]?) : OwnG w' B v l := by
  obtain ⟨⟨h1, h2⟩, hl⟩ := h
  refine ⟨⟨h1, ?_⟩, fun c hc => ⟨(hl c hc).1, Nat.lt_of_lt_of_le (hl c hc).2 hs⟩⟩
  rcases h2 with h2 | ⟨g', cap', cur, hv, hB, hh, r⟩
  · exact .inl h2
  · refine .inr ⟨g', cap', cur, hv, hB, ?_, r⟩
    rw [hk g' hB (hl g' (by rw [hv]; rfl)).2]
    exact hh
theorem Nw.keep {w' W : World} {B len : Nat} {a : Option Addr} {bs : List Int} (h : Nw w' B a len bs) (hs : w'.heap.size ≤ W.heap.size) (hk : ∀ b, B ≤ b → b < w'.heap.size → W.heap[b]? = w'.heap[b]?) : Nw W B a len bs := by
  rcases h with ⟨rfl, rfl, rfl⟩ | ⟨g, rfl, hB, ho⟩
  · exact .inl ⟨rfl, rfl, rfl⟩
  · obtain ⟨⟨h1, h2, h3, h4⟩, h5, h6, h7⟩ := ho
    have hb := hk g hB h5
    have hc : ∀ i, W.cell? ⟨g, i, none⟩ = w'.cell? ⟨g, i, none⟩ := fun i => World.cell?_of_block (w := w') (a := ⟨g, i, none⟩) hb
    refine .inr ⟨g, rfl, hB, ⟨h1, h2, h3, ?_⟩, Nat.lt_of_lt_of_le h5 hs, fun i hi => ?_, fun i hi => ?_⟩
    · rcases h4 with h4 | ⟨b, off, e, hlt, hcc⟩
      · exact .inl h4
      · cases e
        exact .inr ⟨g, 0, rfl, Nat.lt_of_lt_of_le hlt hs, fun i hi => (hc _).trans (hcc i hi)⟩
    · obtain ⟨v, hv⟩ := h6 i hi
      exact ⟨v, (hc i).trans hv⟩
    · exact (World.frozen?_of_block (w := w') (a := ⟨g, i, none⟩) hb).trans (h7 i hi)
theorem nw_ahead {w : World} {B len : Nat} {a : Option Addr} {bs : List Int} (h : Nw w B a len bs) (p : Addr) (ha : a = some p) : p.block < w.heap.size := by
  rcases h with ⟨rfl, _⟩ | ⟨g, rfl, _, ho⟩
  · cases ha
  · cases ha
    exact ho.2.1
theorem Q3.mem {q : Q3} {ql : List Q3} {L : List TV} (hq : q ∈ ql) (hs : (ql.flatMap Q3.tvs).Sublist L) : q.1 ∈ L ∧ q.2.1 ∈ L ∧ q.2.2 ∈ L := by
  have : ∀ x ∈ q.tvs, x ∈ L := fun x hx => hs.subset (List.mem_flatMap.2 ⟨q, hq, hx⟩)
  exact ⟨this _ (by simp [Q3.tvs]), this _ (by simp [Q3.tvs]), this _ (by simp [Q3.tvs])⟩
set_option maxHeartbeats 4000000 in
theorem implGraphRead_any (a : Option Addr) (len cap : Nat) (bs : List Int) (w : World) (hB : Bs w a len bs) (hT : Tab w) (hE : Errs w) :
    Calls Tryz.prog 10 #[.slice a len cap] w (GrRes bs len w) := by
  by_cases hlong : 3000 < len
  · refine (grLong a len cap w hlong).mono ?_
    rintro e w' ⟨rfl, hb⟩
    exact ⟨hb, .inl ⟨1, 0, .long hlong, rfl⟩⟩
  have hle : len ≤ 3000 := by omega
  have hmf : ∀ (fn : Fn) (first cap : Array Value) (w : World), (Instr.makeFunc fn first cap).run Tryz.prog w = .ok (.func fn first cap) w := fun _ _ _ _ => rfl
  have HBs : Hid (∀ W, Below w.heap.size w W → Bs W a len bs ∧ Tab W ∧ Errs W) := fun W hb => ⟨hB.below hb, hT.below hb, hE.below hb⟩
  have HL : Hid (bs.length = len) := hB.1
  clear hB hT hE hlong
  go_enter_defers Tryz.func10, Tryz.ntmps10
  go_wp2_with fail
  have HX3 : Hid (Boxes w.heap.size (((w.alloc (.cells #[.slice none 0 0] 30)).alloc (.cells #[.int .i64 0] 3)).alloc (.cells #[.int .i64 0] 3)) (.slice none 0 0) 0 0) := Boxes.new w _ _
  have HB3 : Hid (Below w.heap.size w (((w.alloc (.cells #[.slice none 0 0] 30)).alloc (.cells #[.int .i64 0] 3)).alloc (.cells #[.int .i64 0] 3))) := bl_alloc (bl_alloc (bl_a _) _) _
  have HS3 : Hid ((((w.alloc (.cells #[.slice none 0 0] 30)).alloc (.cells #[.int .i64 0] 3)).alloc (.cells #[.int .i64 0] 3)).heap.size = w.heap.size + 1 + 1 + 1) := by show _ = _; simp
  generalize (((w.alloc (.cells #[.slice none 0 0] 30)).alloc (.cells #[.int .i64 0] 3)).alloc (.cells #[.int .i64 0] 3)) = W3 at *
  obtain ⟨hb3, ht3, he3⟩ := HBs.out W3 HB3.out
  refine (readerOf_any a len cap bs 3000 W3 hb3 hle (by omega) ht3 he3).mono ?_
  clear hb3 ht3 he3
  rintro e w4 (⟨rd, v, L, hR, hl, rfl⟩ | ⟨p, hl, rfl, hb⟩)
  rotate_left
  · have HP : Hid (Refuses bs len 2 p) := .byte p hle hl
    have HB4 : Hid (Below W3.heap.size W3 w4) := hb
    clear hl hb
    unfold refused
    go_wp2_with fail
    refine gr_panic _ _ w.heap.size 2 p w4 _ _ _ rfl rfl rfl (HX3.out.below (HS3.out ▸ HB4.out)) ?_
    intro W' hb
    refine ⟨(HB3.out.trans (HB4.out.mono HB3.out.size)).trans hb, .inl ⟨2, p, HP.out, rfl⟩⟩
  obtain ⟨hK, hLl, hmay⟩ := TV.may_ok hl (by have := HL.out; omega)
  have HR : Hid (Rdr W3 rd 0 len w4 v L) := hR
  have Hl : Hid (lexR bs 0 = .ok (L.map TV.pt)) := hl
  have HLl : Hid (L.length ≤ 3000) := (show L.length ≤ 3000 by have := HL.out; omega)
  have HM : Hid (∀ x ∈ L, x.pt.2.may) := hmay
  have HK : Hid (∀ x ∈ L, TVok x) := hK
  clear hR hl hK hLl hmay
  go_wp2_with fail
  refine (triples_any W3 w4 rd len v L HR.out HK.out (by have := HLl.out; omega)).mono ?_
  rintro e w5 ⟨hb5, ⟨aa, he, rfl⟩ | ⟨lv, ql, rfl, hO, hrd, hq, hsub, htx, hlen⟩⟩
  · have HP : Hid (Refuses bs len 3 aa) := .form _ aa hle Hl.out he
    have HB5 : Hid (Below W3.heap.size W3 w5) := hb5
    clear he hb5
    unfold refused
    go_wp2_with fail
    refine gr_panic _ _ w.heap.size 3 aa w5 _ _ _ rfl rfl rfl (HX3.out.below (HS3.out ▸ HB5.out)) ?_
    intro W' hb
    refine ⟨(HB3.out.trans (HB5.out.mono HB3.out.size)).trans hb, .inl ⟨3, aa, HP.out, rfl⟩⟩
  have HQ : Hid (∀ q ∈ ql, q.g.good ∧ fine3 q.g.td3) := fun q hqq => Q3.good (hq q hqq) (HM.out _ (Q3.mem hqq hsub).2.2)
  have HTX : Hid (∀ y ∈ ql.map Q3.g, (∀ W, Below w4.heap.size w5 W → y.nw W W3.heap.size) ∧ y.ahead w4.heap.size) := fun y hy => by
    obtain ⟨q, hqq, rfl⟩ := List.mem_map.1 hy
    obtain ⟨m1, m2, m3⟩ := Q3.mem hqq hsub
    have t1 := HR.out.txt _ m1
    have t2 := HR.out.txt _ m2
    have t3 := HR.out.txt _ m3
    refine ⟨fun W hb => ⟨nw_up t1 (htx _ m1) hb, nw_up t2 (htx _ m2) hb, nw_up t3 (htx _ m3) hb⟩, fun p hp => ?_⟩
    rcases hp with hp | hp | hp
    · exact nw_ahead t1 p hp
    · exact nw_ahead t2 p hp
    · exact nw_ahead t3 p hp
  have HG : Hid (∀ y ∈ ql.map Q3.g, y.good ∧ fine3 y.td3) := fun y hy => by
    obtain ⟨q, hqq, rfl⟩ := List.mem_map.1 hy
    exact HQ.out q hqq
  have HRd : Hid (Reads bs len ((ql.map Q3.g).map G1.td3)) := ⟨_, Hl.out, by rw [List.map_map]; exact hrd⟩
  have HSP : Hid ((ql.flatMap Q3.tvs).Pairwise Apart) := HR.out.sep.sublist hsub
  have HO5 : Hid (OwnG w5 w4.heap.size lv (ql.map Q3.g)) := hO
  have HB5 : Hid (Below W3.heap.size W3 w5) := hb5
  have hn5 : (ql.map Q3.g).length ≤ 1000000 := by rw [List.length_map]; have := HLl.out; omega
  have HS4 : Hid (W3.heap.size ≤ w4.heap.size) := HR.out.bel.size
  clear hb5 hO hrd hq hsub htx hlen
  go_wp2_with fail
  refine (sortG_any w4.heap.size lv (ql.map Q3.g) w5 HO5.out hn5 (fun y hy => ⟨(HG.out y hy).1, fun W hb => ⟨((HTX.out y hy).1 W hb).1.bs, ((HTX.out y hy).1 W hb).2.1.bs, ((HTX.out y hy).1 W hb).2.2.bs⟩⟩)).mono ?_
  rintro e w6 ⟨rfl, l6, hp6, hs6, ho6, hb6⟩
  have HO6 : Hid (OwnG w6 w4.heap.size lv l6) := ho6
  have HB6 : Hid (Below w4.heap.size w5 w6) := hb6
  have HP6 : Hid (l6.Perm (ql.map Q3.g)) := hp6
  have HS6 : Hid ((l6.map G1.td3).Pairwise (fun x y => cmpD x y ≤ 0)) := hs6
  clear ho6 hb6 hp6 hs6
  go_wp2_with fail
  refine (compactG_any w4.heap.size lv l6 w6 HO6.out (by rw [HP6.out.length_eq]; exact hn5) (fun y hy => ⟨(HG.out y (HP6.out.mem_iff.1 hy)).1, fun W hb => ?_⟩) (fun y hy => (HG.out y (HP6.out.mem_iff.1 hy)).2) HS6.out).mono ?_
  · have := (HTX.out y (HP6.out.mem_iff.1 hy)).1 W (HB6.out.trans hb)
    exact ⟨this.1.bs, this.2.1.bs, this.2.2.bs⟩
  rintro e w7 ⟨a7, r, cap7, rfl, ho7, hb7, hon⟩
  have HO7 : Hid (OwnG w7 w4.heap.size (.slice a7 r.length cap7) r) := ho7
  have HB7 : Hid (Below w4.heap.size w5 w7) := HB6.out.trans hb7
  have HON : Hid (OnceT ((ql.map Q3.g).map G1.td3) (r.map G1.td3)) := ⟨hon.asc, fun t => (hon.mem t).trans ((HP6.out.map G1.td3).mem_iff)⟩
  have HSU : Hid (∀ y ∈ r, y ∈ ql.map Q3.g) := fun y hy => HP6.out.mem_iff.1 (hon.sub y hy)
  have HX7 : Hid (Boxes w.heap.size w7 (.slice none 0 0) 0 0) := HX3.out.below (HS3.out ▸ (HB5.out.trans (HB7.out.mono HS4.out)))
  have HB0 : Hid (Below w.heap.size w w7) := (HB3.out.trans (HB5.out.mono HB3.out.size)).trans (HB7.out.mono (Nat.le_trans HB3.out.size HS4.out))
  clear ho7 hb7 hon
  by_cases hm : 60 < r.length
  · have hmz : (60 : Int) < (r.length : Int) := by omega
    have HP : Hid (Refuses bs len 1 0) := .many _ _ hle HRd.out HON.out (by rw [List.length_map]; exact hm)
    go_wp2_with fail
    refine gr_panic _ _ w.heap.size 1 0 w7 _ _ _ rfl rfl rfl HX7.out ?_
    intro W' hb
    exact ⟨HB0.out.trans hb, .inl ⟨1, 0, HP.out, rfl⟩⟩
  · have hmz : ¬ (60 : Int) < (r.length : Int) := by omega
    have x0 := HX7.out.c0
    have x1 := HX7.out.c1
    have x2 := HX7.out.c2
    have x3 := HX7.out.f0
    have x4 := HX7.out.f1
    have x5 := HX7.out.f2
    go_wp2_with fail
    have HK7 : ∀ b, w.heap.size + 1 + 1 + 1 ≤ b → (((w7.setCell ⟨w.heap.size, 0, none⟩ (.slice a7 r.length cap7)).setCell ⟨w.heap.size + 1, 0, none⟩ (.int .i64 0)).setCell ⟨w.heap.size + 1 + 1, 0, none⟩ (.int .i64 0)).heap[b]? = w7.heap[b]? := fun b hb => by
      rw [Below.heap_setCell _ _ _ _ (show b ≠ w.heap.size + 1 + 1 by omega), Below.heap_setCell _ _ _ _ (show b ≠ w.heap.size + 1 by omega), Below.heap_setCell _ _ _ _ (show b ≠ w.heap.size by omega)]
    have HS7 : (((w7.setCell ⟨w.heap.size, 0, none⟩ (.slice a7 r.length cap7)).setCell ⟨w.heap.size + 1, 0, none⟩ (.int .i64 0)).setCell ⟨w.heap.size + 1 + 1, 0, none⟩ (.int .i64 0)).heap.size = w7.heap.size := by simp
    have HB8 : Below w.heap.size w (((w7.setCell ⟨w.heap.size, 0, none⟩ (.slice a7 r.length cap7)).setCell ⟨w.heap.size + 1, 0, none⟩ (.int .i64 0)).setCell ⟨w.heap.size + 1 + 1, 0, none⟩ (.int .i64 0)) := ((HB0.out.setCell (p := ⟨w.heap.size, 0, none⟩) (Nat.le_refl _) _).setCell (p := ⟨w.heap.size + 1, 0, none⟩) (show w.heap.size ≤ w.heap.size + 1 by omega) _).setCell (p := ⟨w.heap.size + 1 + 1, 0, none⟩) (show w.heap.size ≤ w.heap.size + 1 + 1 by omega) _
    have HX8 : Boxes w.heap.size (((w7.setCell ⟨w.heap.size, 0, none⟩ (.slice a7 r.length cap7)).setCell ⟨w.heap.size + 1, 0, none⟩ (.int .i64 0)).setCell ⟨w.heap.size + 1 + 1, 0, none⟩ (.int .i64 0)) (.slice a7 r.length cap7) 0 0 := by
      have hl := HX7.out.lt
      refine ⟨?_, ?_, ?_, ?_, ?_, ?_, ?_⟩ <;> simp [*, go_sem]
    refine gr_ret _ _ w.heap.size a7 r.length cap7 0 0 _ rfl rfl rfl HX8 ?_
    generalize (((w7.setCell ⟨w.heap.size, 0, none⟩ (.slice a7 r.length cap7)).setCell ⟨w.heap.size + 1, 0, none⟩ (.int .i64 0)).setCell ⟨w.heap.size + 1 + 1, 0, none⟩ (.int .i64 0)) = w8 at *
    intro W' hb
    have h3 := HS3.out
    have h4 := HS4.out
    refine ⟨HB8.trans (hb.mono HB8.size), .inr ⟨a7, cap7, r, ⟨hle, ⟨_, HRd.out, HON.out⟩, by omega, ⟨w4.heap.size, by omega, (HO7.out.keep (by omega) fun b h1 _ => HK7 b (by omega)).below hb, fun y hy => (HTX.out y (HSU.out y hy)).2⟩, ⟨ql, fun y hy => ?_, HSP.out⟩, fun y hy => HG.out y (HSU.out y hy), fun y hy => ?_⟩, rfl⟩⟩
    · obtain ⟨q, hq, e⟩ := List.mem_map.1 (HSU.out y hy)
      exact ⟨q, hq, e.symm⟩
    · have ht := (HTX.out y (HSU.out y hy)).1 w7 HB7.out
      have k : ∀ {a : Option Addr} {len : Nat} {bs : List Int}, Nw w7 W3.heap.size a len bs → Nw W' w.heap.size a len bs := fun h => ((h.keep (by omega) fun b h1 _ => HK7 b (by omega)).below hb).mono (by omega)
      exact ⟨k ht.1, k ht.2.1, k ht.2.2⟩
end Go.Proofs.YtoclingolfdfeaaGreatDoor

/- ReD -/
namespace Go.Proofs.YtoclingolfdfeaaGreatDoor
open Go.RowKit Go.Deep
set_option maxRecDepth 100000

def TD.sh (t : TD) : List Int := showL t.k t.n t.s t.bs
/-- A triple that may be. -/
def okT (x : T3) : Prop := x.1.ok = true ∧ x.2.1.ok = true ∧ x.2.2.ok = true ∧ x.1.k ≤ 1 ∧ x.2.1.k = 0
end Go.Proofs.YtoclingolfdfeaaGreatDoor

/- ReH -/
namespace Go.Proofs.YtoclingolfdfeaaGreatDoor
open Go.RowKit Go.Deep
set_option maxRecDepth 100000

theorem takeP_sub {ok : PT → Bool} {l r : Toks} {e : Nat} {t : PT} (h : takeP ok l e = .ok (t, r)) : ∃ p, l = (p, t) :: r ∧ ok t = true := by
  cases l with
  | nil => cases h
  | cons x l =>
    simp only [takeP] at h
    split at h
    · rename_i ho
      simp only [Except.ok.injEq, Prod.mk.injEq] at h
      obtain ⟨h1, rfl⟩ := h
      rw [← h1]
      exact ⟨x.1, rfl, ho⟩
    · cases h
theorem triP_form {l r : Toks} {e : Nat} {x : T3} (h : triP l e = .ok (x, r)) : ∃ p1 p2 p3 p4 s p o d, l = (p1, s) :: (p2, p) :: (p3, o) :: (p4, d) :: r ∧ x = (s.td, p.td, o.td) ∧ okSubj s = true ∧ okProp p = true ∧ okTerm o = true ∧ okStop d = true := by
  unfold triP at h
  split at h
  · cases h
  · rename_i h1
    obtain ⟨p1, rfl, k1⟩ := takeP_sub h1
    split at h
    · cases h
    · rename_i h2
      obtain ⟨p2, rfl, k2⟩ := takeP_sub h2
      split at h
      · cases h
      · rename_i h3
        obtain ⟨p3, rfl, k3⟩ := takeP_sub h3
        split at h
        · cases h
        · rename_i h4
          obtain ⟨p4, rfl, k4⟩ := takeP_sub h4
          simp only [Except.ok.injEq, Prod.mk.injEq] at h
          obtain ⟨rfl, rfl⟩ := h
          exact ⟨p1, p2, p3, p4, _, _, _, _, rfl, rfl, k1, k2, k3, k4⟩
/-- The text of a graph. -/
def lineT (x : T3) : List Int := x.1.sh ++ 32 :: (x.2.1.sh ++ 32 :: (x.2.2.sh ++ [32, 46, 10]))
def linesT : List T3 → List Int
  | [] => []
  | x :: r => lineT x ++ linesT r
end Go.Proofs.YtoclingolfdfeaaGreatDoor
