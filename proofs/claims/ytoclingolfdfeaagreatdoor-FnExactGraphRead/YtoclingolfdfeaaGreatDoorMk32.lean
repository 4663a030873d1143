/- Texts put together: LxQ -/
import Derived.Test.YtoclingolfdfeaaGreatDoorMk31
import Derived.Test.YtoclingolfdfeaaGreatDoorMk25
/- LxQ -/
namespace Go.Proofs.YtoclingolfdfeaaGreatDoor
open Go.RowKit Go.Deep
set_option maxRecDepth 100000

/-- Where the model's GraphRead stands. -/
structure GrSt (w : World) (G len : Nat) (toks : Toks) (L : List MT) (v : Value) (i : Nat) (ts : List T3) (l : List G1) (gv : Value) (wr : World) : Prop where
  rd : withT ts (readR (toks.drop i) len) = readR toks len
  once : OnceT ts (l.map G1.td3)
  row : OwnM wr (w.heap.size + 1) v L
  rowlt : ∀ g, v.ownBlock = some g → g < G
  tl : ∀ m ∈ L, m.lies wr
  own : OwnG wr (G + 1) gv l
  good : ∀ y ∈ l, y.good ∧ y.lies0 wr ∧ fine3 y.td3
  rb : Bx wr w.heap.size [.slice none 0 0]
  gb : Bx wr G [gv]
  gw : w.heap.size < G
  bel : Below w.heap.size w wr
  few : 4 * l.length ≤ i
theorem GrSt.below {w : World} {G len : Nat} {toks : Toks} {L : List MT} {v : Value} {i : Nat} {ts : List T3} {l : List G1} {gv : Value} {wr wr' : World} (h : GrSt w G len toks L v i ts l gv wr) (hb : Below wr.heap.size wr wr') : GrSt w G len toks L v i ts l gv wr' :=
  ⟨h.rd, h.once, h.row.below hb, h.rowlt, fun m hm => (h.tl m hm).below hb, h.own.below hb, fun y hy => ⟨(h.good y hy).1, (h.good y hy).2.1.below hb, (h.good y hy).2.2⟩, h.rb.below hb, h.gb.below hb, h.gw, bl_trans h.bel hb, h.few⟩
theorem OwnM.pastLt {w w' : World} {B G : Nat} {v : Value} {l : List MT} (h : OwnM w B v l) (hp : Past G w w') (hlt : ∀ g, v.ownBlock = some g → g < G) : OwnM w' B v l := by
  obtain ⟨⟨h1, h2⟩, hl, hn⟩ := h
  refine ⟨⟨h1, ?_⟩, fun c hc => ⟨(hl c hc).1, Nat.lt_of_lt_of_le (hl c hc).2 hp.size⟩, hn⟩
  rcases h2 with h2 | ⟨g', cap', cur, hv, hB, hh, r⟩
  · exact .inl h2
  · refine .inr ⟨g', cap', cur, hv, hB, ?_, r⟩
    have := hlt g' (by rw [hv]; rfl)
    rw [hp.block g' (hl g' (by rw [hv]; rfl)).2 (by omega)]
    exact hh
/-- What the model's GraphRead answers. -/
def SgRes (bs : List Int) (len : Nat) (w : World) (e : Ending) (w' : World) : Prop :=
  Below w.heap.size w w' ∧ ((∃ c p, Refuses bs len c p ∧ e = .returned (.tuple #[.agg #[.slice none 0 0], .int .i64 c, .int .i64 p])) ∨
    ∃ v l ts, len ≤ 3000 ∧ Reads bs len ts ∧ OnceT ts (l.map G1.td3) ∧ l.length ≤ 60 ∧ e = .returned (.tuple #[.agg #[v], .int .i64 0, .int .i64 0]) ∧ OwnG w' w.heap.size v l ∧ ∀ y ∈ l, y.lies0 w' ∧ y.good)
/-- The triple of three tokens. -/
def tri (a b c : MT) : G1 := ⟨a.t, b.t, c.t, a.tb, b.tb, c.tb⟩
theorem tri_good {a b c : MT} {x y z : Nat × PT} {w : World} (ha : a.is x.1 x.2) (hb : b.is y.1 y.2) (hc : c.is z.1 z.2) (la : a.lies w) (lb : b.lies w) (lc : c.lies w) (h1 : okSubj x.2 = true) (h2 : okProp y.2 = true) (h3 : okTerm z.2 = true) (hm : z.2.may) :
    (tri a b c).td3 = (x.2.td, y.2.td, z.2.td) ∧ (tri a b c).good ∧ (tri a b c).lies0 w ∧ fine3 (tri a b c).td3 := by
  unfold okSubj at h1
  unfold okProp at h2
  unfold okTerm at h3
  simp only [Bool.and_eq_true, beq_iff_eq, decide_eq_true_eq] at h1 h2 h3
  have e1 := ha.td h1.1
  have e2 := hb.td h2.1
  have e3 := hc.td h3
  have hz : z.2.td.ok = true := by
    rcases hm.2 with ⟨_, h⟩ | ⟨h, _⟩
    · exact h
    · exact absurd h3 h
  have ht : (tri a b c).td3 = (x.2.td, y.2.td, z.2.td) := by
    show ((⟨a.t.k, a.tb, a.t.n, a.t.s⟩ : TD), (⟨b.t.k, b.tb, b.t.n, b.t.s⟩ : TD), (⟨c.t.k, c.tb, c.t.n, c.t.s⟩ : TD)) = _
    rw [e1, e2, e3]
  have hok : okT (tri a b c).td3 := by
    rw [ht]
    exact ⟨h1.2.1, h2.2.1, hz, h1.2.2, h2.2.2⟩
  refine ⟨ht, ⟨la.fit, lb.fit, lc.fit, ?_⟩, ⟨la.t, lb.t, lc.t⟩, hok.fine⟩
  unfold tripleOk
  simp only [Bool.and_eq_true, decide_eq_true_eq, beq_iff_eq]
  exact ⟨⟨⟨⟨hok.1, hok.2.1⟩, hok.2.2.1⟩, hok.2.2.2.1⟩, hok.2.2.2.2⟩
/-- A group is put: where GraphRead stands behind it. -/
theorem gr_step {w : World} {G len : Nat} {toks : Toks} {L : List MT} {v : Value} {i : Nat} {ts : List T3} {l : List G1} {gv : Value} {wr w2 : World} {l' : List G1} {v' : Value} {a b c : MT} {x y z d : Nat × PT} {r : Toks} (h : GrSt w G len toks L v i ts l gv wr)
    (ht : (tri a b c).td3 = (x.2.td, y.2.td, z.2.td)) (hg : (tri a b c).good) (hl : (tri a b c).lies0 wr) (hf : fine3 (tri a b c).td3) (hd : toks.drop i = x :: y :: z :: d :: r) (htr : triP (toks.drop i) len = .ok ((x.2.td, y.2.td, z.2.td), r))
    (hb : Below wr.heap.size wr w2) (hO : OwnG w2 (G + 1) v' l') (hp : PutL l (tri a b c) l') :
    GrSt w G len toks L v (i + 4) (ts ++ [(tri a b c).td3]) l' v' (w2.setCell ⟨G, 0, none⟩ v') := by
  have h2 := h.below hb
  have hP : Past G w2 (w2.setCell ⟨G, 0, none⟩ v') := (Past.refl G w2).set 0 _
  have hc0 := h2.gb.c 0 _ rfl
  have hgs : ∀ k, gv ≠ .int .u8 k := fun k e => by
    obtain ⟨q1, q2, q3, q4⟩ := h.own.slice
    rw [q4] at e
    cases e
  have hm := putL_mem hp
  refine ⟨?_, ?_, h2.row.pastLt hP h.rowlt, h.rowlt, fun m hm => (h2.tl m hm).set hc0 hgs 0 _, hO.past hP (by omega), fun q hq => ?_, h2.rb.other 0 _ (by have := h.gw; omega), h2.gb.set 0 _ (by simp), h.gw, h2.bel.setCell (p := ⟨G, 0, none⟩) (Nat.le_of_lt h.gw) _, ?_⟩
  · have e : toks.drop (i + 4) = r := by
      rw [← List.drop_drop, hd]
      rfl
    have h1 := h.rd
    rw [readR_more htr, withT_map] at h1
    rw [e, ht]
    exact h1
  · exact put_once h.once (fun y hy => (h.good y hy).2.2) hf hp
  · rcases hm.1 q hq with hq | rfl
    · obtain ⟨k1, k2, k3⟩ := h2.good q hq
      exact ⟨k1, k2.set hc0 hgs 0 _, k3⟩
    · exact ⟨hg, (hl.below hb).set hc0 hgs 0 _, hf⟩
  · have := hm.2
    have := h.few
    omega
theorem kindM_one {k : Nat} : (kindM k == 1) = decide (k = 0) := by
  unfold kindM
  by_cases h0 : k = 0
  · simp [h0]
  · rw [if_neg h0]
    by_cases h1 : k = 1
    · simp [h1]
    · rw [if_neg h1]
      by_cases h2 : k = 2
      · simp [h2]
      · simp [h2, h0]
theorem kindM_five {k : Nat} (h : k ≤ 3) : (kindM k == 5) = decide (k = 3) := by
  unfold kindM
  rcases (by omega : k = 0 ∨ k = 1 ∨ k = 2 ∨ k = 3) with rfl | rfl | rfl | rfl <;> decide
theorem okK_0 {m : MT} {x : Nat × PT} (h : m.is x.1 x.2) (hm : x.2.may) (hk : x.2.kind = 0) (h1 : m.t.k ≤ 1) : okK 0 x.2 = true := by
  have e := h.td hk
  have ho : x.2.td.ok = true := by
    rcases hm.2 with ⟨_, h⟩ | ⟨h, _⟩
    · exact h
    · exact absurd hk h
  have h2 : x.2.td.k ≤ 1 := by rw [← e]; exact h1
  unfold TD.ok at ho
  simp [okK, okSubj, hk, ho, h2]
theorem okK_0n {m : MT} {x : Nat × PT} (h : m.is x.1 x.2) (hk : x.2.kind = 0) (h1 : ¬ m.t.k ≤ 1) : okK 0 x.2 = false := by
  have e := h.td hk
  have h2 : ¬ x.2.td.k ≤ 1 := by rw [← e]; exact h1
  simp [okK, okSubj, h2]
theorem okK_1 {m : MT} {x : Nat × PT} (h : m.is x.1 x.2) (hm : x.2.may) (hk : x.2.kind = 0) (h1 : m.t.k = 0) : okK 1 x.2 = true := by
  have e := h.td hk
  have ho : x.2.td.ok = true := by
    rcases hm.2 with ⟨_, h⟩ | ⟨h, _⟩
    · exact h
    · exact absurd hk h
  have h2 : x.2.td.k = 0 := by rw [← e]; exact h1
  unfold TD.ok at ho
  rw [h2] at ho
  simp [okK, okProp, hk, ho, h2]
theorem okK_1n {m : MT} {x : Nat × PT} (h : m.is x.1 x.2) (hk : x.2.kind = 0) (h1 : ¬ m.t.k = 0) : okK 1 x.2 = false := by
  have e := h.td hk
  have h2 : ¬ x.2.td.k = 0 := by rw [← e]; exact h1
  simp [okK, okProp, h2]
set_option maxHeartbeats 16000000 in
theorem specGraphRead_any (a : Option Addr) (len cap : Nat) (bs : List Int) (w : World) (hB : Bs w a len bs) (hcap : len ≤ cap) :
    Calls Tryz.prog 20 #[.slice a len cap] w (SgRes bs len w) := by
  have HB : Hid (Bs w a len bs) := hB
  have hl2 := hB.2.1
  by_cases hlong : 3000 < len
  · have hz : (3000 : Int) < (len : Int) := by omega
    clear hB
    go_enter Tryz.func20, Tryz.ntmps20
    go_wp2_with fail
    exact bodyPost_ret (v := .tuple #[.agg #[.slice none 0 0], .int .i64 1, .int .i64 0]) (by simp [results, Tryz.results20, go_sem]) rfl ⟨bl_a _, .inl ⟨1, 0, .long hlong, rfl⟩⟩
  have hz : ¬ (3000 : Int) < (len : Int) := by omega
  have HLL : Hid (len ≤ 3000) := by show len ≤ 3000; omega
  have LX := l2lex_any a len cap bs (w.alloc (.cells #[.slice none 0 0] 30)) (hB.below (bl_a _)) (by omega) hcap
  clear hB
  go_enter Tryz.func20, Tryz.ntmps20
  go_wp2_with fail
  refine LX.mono ?_
  rintro e w1 ⟨⟨p, hp, rfl⟩ | ⟨v, L, toks, htoks, rfl, hare, hown, hlies⟩, hb1⟩
  · have hpz : (0 : Int) ≤ (p : Int) := by omega
    have HR1 : Hid (Bx w1 w.heap.size [.slice none 0 0]) := (Bx.new w _ _ 30 rfl).below hb1
    have b0 := HR1.out.c 0 _ rfl
    have bf := HR1.out.f 0 (by simp)
    have HW1 : Hid (Below w.heap.size w w1) := bl_trans (bl_a _) hb1
    have HP : Hid (lexR bs 0 = .error p) := hp
    clear hb1 LX hp
    go_wp2_with fail
    exact bodyPost_ret (v := .tuple #[.agg #[.slice none 0 0], .int .i64 2, .int .i64 p]) (by simp [results, Tryz.results20, go_sem, *]) rfl ⟨bl_set HW1.out (Nat.le_refl _) _, .inl ⟨2, p, .byte p HLL.out HP.out, rfl⟩⟩
  have hmay := lexR_may htoks
  rw [HB.out.1] at hmay
  have HMAY : Hid (∀ q ∈ toks, q.2.may) := fun q hq => (hmay.1 q hq).1
  have HARE : Hid (AreM L toks) := hare
  have hLl : L.length ≤ len := by rw [hare.len]; exact hmay.2
  have HTK : Hid (lexR bs 0 = .ok toks) := htoks
  obtain ⟨va, vc, hv⟩ := hown.isSlice
  subst hv
  have HS0 : Hid (GrSt w w1.heap.size len toks L (.slice va L.length vc) 0 [] [] (.slice none 0 0) (w1.alloc (.cells #[.slice none 0 0] 30))) := by
    have hw : w.heap.size < w1.heap.size := by
      have := hb1.size
      simp at this
      omega
    refine ⟨withT_nil _, ⟨by simp, fun t => Iff.rfl⟩, ?_, fun g hg => (hown.lo g hg).2, fun m hm => (hlies m hm).below (bl_a _), OwnG.nil _ _, fun y hy => (by cases hy), ((Bx.new w _ _ 30 rfl).below hb1).below (bl_a _), Bx.new w1 _ _ 30 rfl, hw, bl_trans (bl_trans (bl_a _) hb1) (bl_a _), Nat.le_refl _⟩
    have h := hown.below (bl_a (.cells #[.slice none 0 0] 30))
    simpa using h
  clear hmay hare hlies htoks hb1 LX hown
  obtain ⟨n, hn⟩ : ∃ n, n = L.length := ⟨_, rfl⟩
  have HN : Hid (n = L.length) := hn
  rw [← hn] at hLl HS0 ⊢
  clear hn
  have hneg : ¬ (0 : Int) ≤ -1 := by omega
  go_wp2_with fail
  obtain ⟨G, hG⟩ : ∃ G, G = w1.heap.size := ⟨_, rfl⟩
  rw [← hG] at HS0 ⊢
  clear hG
  go_loopw [8] (fun iv wr => ∃ (i : Nat) (ts : List T3) (l : List G1) (gv : Value), iv = .int .i64 i ∧ i ≤ n ∧ Hid (GrSt w G len toks L (.slice va n vc) i ts l gv wr)) (fun iv _ => n - (intOf iv).toNat)
  case atStart => exact ⟨0, [], [], _, rfl, Nat.zero_le _, HS0⟩
  case round =>
    obtain ⟨i, ts, l, gv, rfl, hi, HS⟩ := hrel
    clear HS0
    obtain ⟨ga, gn, gc, hgv⟩ := HS.out.own.slice
    subst hgv
    obtain rfl := HS.out.own.len
    by_cases hlt : i < n
    · have hltz : (i : Int) < (n : Int) := by omega
      go_wp2_with fail
      have HK0 : Hid (∀ q x, q < 0 → toks[i + q]? = some x → okK q x.2 = true) := fun q x h => (by omega)
      obtain ⟨wo, hwo⟩ : ∃ wo, wo = wr := ⟨_, rfl⟩
      rw [← hwo] at HS ⊢
      clear hwo
      go_loopw [9] (fun kv wr => ∃ (k : Nat), kv = .int .i64 k ∧ k ≤ 4 ∧ i + k ≤ n ∧ Hid (GrSt w G len toks L (.slice va n vc) i ts l (.slice ga l.length gc) wr) ∧ Hid (∀ q x, q < k → toks[i + q]? = some x → okK q x.2 = true)) (fun kv _ => 4 - (intOf kv).toNat)
      case atStart => exact ⟨0, rfl, by omega, by omega, HS, HK0⟩
      case round =>
        obtain ⟨k, rfl, hk4, hik, HS1, HK⟩ := hrel
        clear HS HK0
        by_cases hk : k < 4
        · by_cases hin : i + k < n
          · obtain ⟨m, hm⟩ : ∃ m, L[i + k]? = some m := ⟨_, List.getElem?_eq_getElem (by rw [← HN.out]; exact hin)⟩
            obtain ⟨x, hx⟩ : ∃ x, toks[i + k]? = some x := ⟨_, List.getElem?_eq_getElem (by rw [← HARE.out.len, ← HN.out]; exact hin)⟩
            have hisx := HARE.out.get hm hx
            have hmx := HMAY.out x (List.mem_of_getElem? hx)
            have hlm := HS1.out.tl m (List.mem_of_getElem? hm)
            obtain ⟨gr, cr, hvr, hcr, hcells⟩ := HS1.out.row.at hm
            simp only [Value.slice.injEq] at hvr
            obtain ⟨rfl, _, rfl⟩ := hvr
            have HBAD : Hid (okK k x.2 = false → Refuses bs len 3 x.1) := fun h => by
              have hb := (group_bad (l := toks.drop i) (e := len) (k := k) hk (fun q y hq hy => HK.out q y hq (by rw [List.getElem?_drop] at hy; exact hy)) (by rw [List.length_drop, ← HARE.out.len, ← HN.out]; omega)).2 x (tok_get hx) h
              have hr := HS1.out.rd
              rw [readR_bad hb (by intro h0; have h1 := congrArg List.length h0; rw [List.length_drop, ← HARE.out.len, ← HN.out] at h1; simp at h1; omega)] at hr
              exact .form toks x.1 HLL.out HTK.out (by rw [← hr]; rfl)
            have HNEXT : Hid (okK k x.2 = true → ∀ q y, q < k + 1 → toks[i + q]? = some y → okK q y.2 = true) := fun h q y hq hy => by
              by_cases e : q = k
              · subst e
                rw [hx] at hy
                cases hy
                exact h
              · exact HK.out q y (by omega) hy
            have HIS : Hid (m.is x.1 x.2) := hisx
            have HMX : Hid (x.2.may) := hmx
            have HLM : Hid (m.lies wr) := hlm
            clear hisx hmx hlm hm hx HK
            obtain ⟨mk, mp, ⟨tk, ta, tl, tc, tn, tq⟩, mtb, mxa, mxl, mxc, mxb⟩ := m
            have HKD : Hid (mk = kindM x.2.kind) := HIS.out.kind
            have HPP : Hid (mp = x.1) := HIS.out.p
            have HXB : Hid (mxb = txtM x.2) := HIS.out.x
            rcases (by omega : k = 0 ∨ k = 1 ∨ k = 2 ∨ k = 3) with rfl | rfl | rfl | rfl
            · have hi0z : (i : Int) < (n : Int) := by omega
              have hge0 : ¬ (n : Int) ≤ (i : Int) := by omega
              have r0 : wr.cell? ⟨gr, i * 7, none⟩ = some _ := hcells 0 _ rfl
              have r1 : wr.cell? ⟨gr, i * 7 + 1, none⟩ = some _ := hcells 1 _ rfl
              have r2 : wr.cell? ⟨gr, i * 7 + 2, none⟩ = some _ := hcells 2 _ rfl
              have r3 : wr.cell? ⟨gr, i * 7 + 3, none⟩ = some _ := hcells 3 _ rfl
              have r4 : wr.cell? ⟨gr, i * 7 + 4, none⟩ = some _ := hcells 4 _ rfl
              have r5 : wr.cell? ⟨gr, i * 7 + 5, none⟩ = some _ := hcells 5 _ rfl
              have r6 : wr.cell? ⟨gr, i * 7 + 6, none⟩ = some _ := hcells 6 _ rfl
              clear hcells
              have HSn : Hid (GrSt w G len toks L (.slice (some ⟨gr, 0, none⟩) n vc) i ts l (.slice ga l.length gc) (wr.alloc (.cells #[.int .i64 mk, .int .i64 mp, .int .i64 tk, .slice ta tl tc, .int .i64 tn, .int .i64 tq, .slice mxa mxl mxc] 77))) := HS1.out.below (bl_a _)
              have hstr : (convert 22 9 (.slice mxa mxl mxc)).run Tryz.prog (wr.alloc (.cells #[.int .i64 mk, .int .i64 mp, .int .i64 tk, .slice ta tl tc, .int .i64 tn, .int .i64 tq, .slice mxa mxl mxc] 77)) = .ok (.string (strOfNums mxb)) (wr.alloc (.cells #[.int .i64 mk, .int .i64 mp, .int .i64 tk, .slice ta tl tc, .int .i64 tn, .int .i64 tq, .slice mxa mxl mxc] 77)) := (HLM.out.x.1.below (bl_a _)).str
              have t1 : (wr.alloc (.cells #[.int .i64 mk, .int .i64 mp, .int .i64 tk, .slice ta tl tc, .int .i64 tn, .int .i64 tq, .slice mxa mxl mxc] 77)).cell? ⟨wr.heap.size, 1, none⟩ = some (.int .i64 mp) := by simp [go_sem]
              have rb0 := HSn.out.rb.c 0 _ rfl
              have rbf := HSn.out.rb.f 0 (by simp)
              by_cases hk0 : x.2.kind = 0
              · have hmk : mk = 1 := by rw [HKD.out, hk0]; rfl
                subst hmk
                by_cases hk1 : tk ≤ 1
                · have HOK : Hid (okK 0 x.2 = true) := okK_0 HIS.out HMX.out hk0 hk1
                  clear hk0
                  have HNX := HNEXT.out (HOK.out)
                  have HNX' : Hid (∀ q y, q < 1 → toks[i + q]? = some y → okK q y.2 = true) := HNX
                  clear HNX HNEXT HBAD
                  go_wp2_with fail
                  go_roundw
                  case rel => exact ⟨1, by go_num, by omega, by omega, HSn, HNX'⟩
                  case measure => simp [intOf]; try omega
                · have HNOK : Hid (okK 0 x.2 = false) := okK_0n HIS.out hk0 hk1
                  clear hk0 
                  have HRF : Hid (Refuses bs len 3 mp) := by
                    show Refuses bs len 3 mp
                    rw [HPP.out]
                    exact HBAD.out (HNOK.out)
                  have HWd : Hid (Below w.heap.size w (wr.alloc (.cells #[.int .i64 1, .int .i64 mp, .int .i64 tk, .slice ta tl tc, .int .i64 tn, .int .i64 tq, .slice mxa mxl mxc] 77)).drew) := Below.drew HSn.out.bel
                  have HTD : Hid (Bx (wr.alloc (.cells #[.int .i64 1, .int .i64 mp, .int .i64 tk, .slice ta tl tc, .int .i64 tn, .int .i64 tq, .slice mxa mxl mxc] 77)).drew wr.heap.size [.int .i64 1, .int .i64 mp, .int .i64 tk, .slice ta tl tc, .int .i64 tn, .int .i64 tq, .slice mxa mxl mxc]) := (Bx.new wr _ _ 77 rfl).below (Below.drew (Below.refl _ _))
                  have rd0 : (wr.alloc (.cells #[.int .i64 1, .int .i64 mp, .int .i64 tk, .slice ta tl tc, .int .i64 tn, .int .i64 tq, .slice mxa mxl mxc] 77)).drew.cell? ⟨w.heap.size, 0, none⟩ = some (.slice none 0 0) := rb0
                  have rdf : (wr.alloc (.cells #[.int .i64 1, .int .i64 mp, .int .i64 tk, .slice ta tl tc, .int .i64 tn, .int .i64 tq, .slice mxa mxl mxc] 77)).drew.frozen? ⟨w.heap.size, 0, none⟩ = false := rbf
                  have hne : wr.heap.size ≠ w.heap.size := by have := HS1.out.rb.lt; omega
                  have HNE : Hid (wr.heap.size ≠ w.heap.size) := hne
                  clear hne
                  go_wp2_with fail
                  refine wp_region_held_drew (S := fun w' => Bx w' wr.heap.size [.int .i64 1, .int .i64 mp, .int .i64 tk, .slice ta tl tc, .int .i64 tn, .int .i64 tq, .slice mxa mxl mxc]) (by kernel_rfl) ?_ (fun hHeld => ?_)
                  · exact HTD.out
                  clear rb0 rbf hstr t1 HTD
                  generalize (wr.alloc (.cells #[.int .i64 1, .int .i64 mp, .int .i64 tk, .slice ta tl tc, .int .i64 tn, .int .i64 tq, .slice mxa mxl mxc] 77)).drew = wd at HWd rd0 rdf hHeld ⊢
                  refine take_at (i := 0) 85 (v := ?v1) rfl rfl (by kernel_rfl) (by kernel_rfl) (by kernel_rfl) (fun _ _ _ h => h) (Or.inl ⟨by rfl, ?y1⟩) hHeld ?r1
                  case y1 => (intro w' hSw; skip; go_simp; (try with_reducible rfl))
                  try simp only [Act.put, List.setIfInBounds_toArray, List.set_cons_zero, List.set_cons_succ]
                  refine take_at (i := 1) 86 (v := ?v2) rfl rfl (by kernel_rfl) (by kernel_rfl) (by kernel_rfl) (fun _ _ _ h => h) (Or.inl ⟨by rfl, ?y2⟩) hHeld ?r2
                  case y2 => (intro w' hSw; skip; go_simp; (try with_reducible rfl))
                  try simp only [Act.put, List.setIfInBounds_toArray, List.set_cons_zero, List.set_cons_succ]
                  refine take_at (i := 2) 87 (v := ?v3) rfl rfl (by kernel_rfl) (by kernel_rfl) (by kernel_rfl) (fun _ _ _ h => h) (Or.inl ⟨by rfl, ?y3⟩) hHeld ?r3
                  case y3 => (intro w' hSw; have q1 := hSw.c 1 _ rfl; go_simp; (try with_reducible rfl))
                  try simp only [Act.put, List.setIfInBounds_toArray, List.set_cons_zero, List.set_cons_succ]
                  refine wpAnyH_ready (rs := [3]) (by kernel_rfl) (by simp) ?_
                  refine AllReadyH.cons rfl (fun K hK => ?_) AllReadyH.nil
                  go_simp
                  refine hK.out _ _ ?_ (fun hHeld => ?_)
                  · exact (hHeld.other 0 _ HNE.out)
                  clear hK K
                  try simp only [Act.put, List.setIfInBounds_toArray, List.set_cons_zero, List.set_cons_succ]
                  refine take_at (i := 4) 3 (v := ?v4) rfl rfl (by kernel_rfl) (by kernel_rfl) (by kernel_rfl) (fun _ _ _ h => h) (Or.inl ⟨by rfl, ?y4⟩) hHeld ?r4
                  case y4 => (intro w' hSw; skip; go_simp; (try with_reducible rfl))
                  try simp only [Act.put, List.setIfInBounds_toArray, List.set_cons_zero, List.set_cons_succ]
                  refine take_at (i := 5) 4 (v := ?v5) rfl rfl (by kernel_rfl) (by kernel_rfl) (by kernel_rfl) (fun _ _ _ h => h) (Or.inl ⟨by rfl, ?y5⟩) hHeld ?r5
                  case y5 => (intro w' hSw; skip; go_simp; (try with_reducible rfl))
                  try simp only [Act.put, List.setIfInBounds_toArray, List.set_cons_zero, List.set_cons_succ]
                  refine wpAnyH_done (by kernel_rfl) ?_ _
                  clear hHeld
                  go_wp2_with fail
                  exact bodyPost_ret (v := .tuple #[.agg #[.slice none 0 0], .int .i64 3, .int .i64 mp]) (by simp [results, Tryz.results20, go_sem, *]) rfl ⟨bl_set HWd.out (Nat.le_refl _) _, .inl ⟨3, mp, HRF.out, rfl⟩⟩
              · have hq1 : (mk == 1) = false := by rw [HKD.out, kindM_one]; exact decide_eq_false hk0
                have HNOK : Hid (okK 0 x.2 = false) := by show okK 0 x.2 = false; simp [okK, okSubj, hk0]
                clear hk0
                have HRF : Hid (Refuses bs len 3 mp) := by
                  show Refuses bs len 3 mp
                  rw [HPP.out]
                  exact HBAD.out (HNOK.out)
                have HWd : Hid (Below w.heap.size w (wr.alloc (.cells #[.int .i64 mk, .int .i64 mp, .int .i64 tk, .slice ta tl tc, .int .i64 tn, .int .i64 tq, .slice mxa mxl mxc] 77)).drew) := Below.drew HSn.out.bel
                have HTD : Hid (Bx (wr.alloc (.cells #[.int .i64 mk, .int .i64 mp, .int .i64 tk, .slice ta tl tc, .int .i64 tn, .int .i64 tq, .slice mxa mxl mxc] 77)).drew wr.heap.size [.int .i64 mk, .int .i64 mp, .int .i64 tk, .slice ta tl tc, .int .i64 tn, .int .i64 tq, .slice mxa mxl mxc]) := (Bx.new wr _ _ 77 rfl).below (Below.drew (Below.refl _ _))
                have rd0 : (wr.alloc (.cells #[.int .i64 mk, .int .i64 mp, .int .i64 tk, .slice ta tl tc, .int .i64 tn, .int .i64 tq, .slice mxa mxl mxc] 77)).drew.cell? ⟨w.heap.size, 0, none⟩ = some (.slice none 0 0) := rb0
                have rdf : (wr.alloc (.cells #[.int .i64 mk, .int .i64 mp, .int .i64 tk, .slice ta tl tc, .int .i64 tn, .int .i64 tq, .slice mxa mxl mxc] 77)).drew.frozen? ⟨w.heap.size, 0, none⟩ = false := rbf
                have hne : wr.heap.size ≠ w.heap.size := by have := HS1.out.rb.lt; omega
                have HNE : Hid (wr.heap.size ≠ w.heap.size) := hne
                clear hne
                go_wp2_with fail
                refine wp_region_held_drew (S := fun w' => Bx w' wr.heap.size [.int .i64 mk, .int .i64 mp, .int .i64 tk, .slice ta tl tc, .int .i64 tn, .int .i64 tq, .slice mxa mxl mxc]) (by kernel_rfl) ?_ (fun hHeld => ?_)
                · exact HTD.out
                clear rb0 rbf hstr t1 HTD
                generalize (wr.alloc (.cells #[.int .i64 mk, .int .i64 mp, .int .i64 tk, .slice ta tl tc, .int .i64 tn, .int .i64 tq, .slice mxa mxl mxc] 77)).drew = wd at HWd rd0 rdf hHeld ⊢
                refine take_at (i := 0) 85 (v := ?v6) rfl rfl (by kernel_rfl) (by kernel_rfl) (by kernel_rfl) (fun _ _ _ h => h) (Or.inl ⟨by rfl, ?y6⟩) hHeld ?r6
                case y6 => (intro w' hSw; skip; go_simp; (try with_reducible rfl))
                try simp only [Act.put, List.setIfInBounds_toArray, List.set_cons_zero, List.set_cons_succ]
                refine take_at (i := 1) 86 (v := ?v7) rfl rfl (by kernel_rfl) (by kernel_rfl) (by kernel_rfl) (fun _ _ _ h => h) (Or.inl ⟨by rfl, ?y7⟩) hHeld ?r7
                case y7 => (intro w' hSw; skip; go_simp; (try with_reducible rfl))
                try simp only [Act.put, List.setIfInBounds_toArray, List.set_cons_zero, List.set_cons_succ]
                refine take_at (i := 2) 87 (v := ?v8) rfl rfl (by kernel_rfl) (by kernel_rfl) (by kernel_rfl) (fun _ _ _ h => h) (Or.inl ⟨by rfl, ?y8⟩) hHeld ?r8
                case y8 => (intro w' hSw; have q1 := hSw.c 1 _ rfl; go_simp; (try with_reducible rfl))
                try simp only [Act.put, List.setIfInBounds_toArray, List.set_cons_zero, List.set_cons_succ]
                refine wpAnyH_ready (rs := [3]) (by kernel_rfl) (by simp) ?_
                refine AllReadyH.cons rfl (fun K hK => ?_) AllReadyH.nil
                go_simp
                refine hK.out _ _ ?_ (fun hHeld => ?_)
                · exact (hHeld.other 0 _ HNE.out)
                clear hK K
                try simp only [Act.put, List.setIfInBounds_toArray, List.set_cons_zero, List.set_cons_succ]
                refine take_at (i := 4) 3 (v := ?v9) rfl rfl (by kernel_rfl) (by kernel_rfl) (by kernel_rfl) (fun _ _ _ h => h) (Or.inl ⟨by rfl, ?y9⟩) hHeld ?r9
                case y9 => (intro w' hSw; skip; go_simp; (try with_reducible rfl))
                try simp only [Act.put, List.setIfInBounds_toArray, List.set_cons_zero, List.set_cons_succ]
                refine take_at (i := 5) 4 (v := ?v10) rfl rfl (by kernel_rfl) (by kernel_rfl) (by kernel_rfl) (fun _ _ _ h => h) (Or.inl ⟨by rfl, ?y10⟩) hHeld ?r10
                case y10 => (intro w' hSw; skip; go_simp; (try with_reducible rfl))
                try simp only [Act.put, List.setIfInBounds_toArray, List.set_cons_zero, List.set_cons_succ]
                refine wpAnyH_done (by kernel_rfl) ?_ _
                clear hHeld
                go_wp2_with fail
                exact bodyPost_ret (v := .tuple #[.agg #[.slice none 0 0], .int .i64 3, .int .i64 mp]) (by simp [results, Tryz.results20, go_sem, *]) rfl ⟨bl_set HWd.out (Nat.le_refl _) _, .inl ⟨3, mp, HRF.out, rfl⟩⟩
            · have hi1z : (i : Int) + 1 < (n : Int) := by omega
              have hi10 : (0 : Int) ≤ (i : Int) + 1 := by omega
              have hge1 : ¬ (n : Int) ≤ (i : Int) + 1 := by omega
              have r0 : wr.cell? ⟨gr, (i + 1) * 7, none⟩ = some _ := hcells 0 _ rfl
              have r1 : wr.cell? ⟨gr, (i + 1) * 7 + 1, none⟩ = some _ := hcells 1 _ rfl
              have r2 : wr.cell? ⟨gr, (i + 1) * 7 + 2, none⟩ = some _ := hcells 2 _ rfl
              have r3 : wr.cell? ⟨gr, (i + 1) * 7 + 3, none⟩ = some _ := hcells 3 _ rfl
              have r4 : wr.cell? ⟨gr, (i + 1) * 7 + 4, none⟩ = some _ := hcells 4 _ rfl
              have r5 : wr.cell? ⟨gr, (i + 1) * 7 + 5, none⟩ = some _ := hcells 5 _ rfl
              have r6 : wr.cell? ⟨gr, (i + 1) * 7 + 6, none⟩ = some _ := hcells 6 _ rfl
              clear hcells
              have HSn : Hid (GrSt w G len toks L (.slice (some ⟨gr, 0, none⟩) n vc) i ts l (.slice ga l.length gc) (wr.alloc (.cells #[.int .i64 mk, .int .i64 mp, .int .i64 tk, .slice ta tl tc, .int .i64 tn, .int .i64 tq, .slice mxa mxl mxc] 77))) := HS1.out.below (bl_a _)
              have hstr : (convert 22 9 (.slice mxa mxl mxc)).run Tryz.prog (wr.alloc (.cells #[.int .i64 mk, .int .i64 mp, .int .i64 tk, .slice ta tl tc, .int .i64 tn, .int .i64 tq, .slice mxa mxl mxc] 77)) = .ok (.string (strOfNums mxb)) (wr.alloc (.cells #[.int .i64 mk, .int .i64 mp, .int .i64 tk, .slice ta tl tc, .int .i64 tn, .int .i64 tq, .slice mxa mxl mxc] 77)) := (HLM.out.x.1.below (bl_a _)).str
              have t1 : (wr.alloc (.cells #[.int .i64 mk, .int .i64 mp, .int .i64 tk, .slice ta tl tc, .int .i64 tn, .int .i64 tq, .slice mxa mxl mxc] 77)).cell? ⟨wr.heap.size, 1, none⟩ = some (.int .i64 mp) := by simp [go_sem]
              have rb0 := HSn.out.rb.c 0 _ rfl
              have rbf := HSn.out.rb.f 0 (by simp)
              by_cases hk0 : x.2.kind = 0
              · have hmk : mk = 1 := by rw [HKD.out, hk0]; rfl
                subst hmk
                by_cases hk1 : tk = 0
                · have HOK : Hid (okK 1 x.2 = true) := okK_1 HIS.out HMX.out hk0 hk1
                  clear hk0
                  subst hk1
                  have HNX := HNEXT.out (HOK.out)
                  have HNX' : Hid (∀ q y, q < 2 → toks[i + q]? = some y → okK q y.2 = true) := HNX
                  clear HNX HNEXT HBAD
                  go_wp2_with fail
                  go_roundw
                  case rel => exact ⟨2, by go_num, by omega, by omega, HSn, HNX'⟩
                  case measure => simp [intOf]; try omega
                · have hk1b : (tk == 0) = false := by simp [hk1]
                  have HNOK : Hid (okK 1 x.2 = false) := okK_1n HIS.out hk0 hk1
                  clear hk0 hk1
                  have HRF : Hid (Refuses bs len 3 mp) := by
                    show Refuses bs len 3 mp
                    rw [HPP.out]
                    exact HBAD.out (HNOK.out)
                  have HWd : Hid (Below w.heap.size w (wr.alloc (.cells #[.int .i64 1, .int .i64 mp, .int .i64 tk, .slice ta tl tc, .int .i64 tn, .int .i64 tq, .slice mxa mxl mxc] 77)).drew) := Below.drew HSn.out.bel
                  have HTD : Hid (Bx (wr.alloc (.cells #[.int .i64 1, .int .i64 mp, .int .i64 tk, .slice ta tl tc, .int .i64 tn, .int .i64 tq, .slice mxa mxl mxc] 77)).drew wr.heap.size [.int .i64 1, .int .i64 mp, .int .i64 tk, .slice ta tl tc, .int .i64 tn, .int .i64 tq, .slice mxa mxl mxc]) := (Bx.new wr _ _ 77 rfl).below (Below.drew (Below.refl _ _))
                  have rd0 : (wr.alloc (.cells #[.int .i64 1, .int .i64 mp, .int .i64 tk, .slice ta tl tc, .int .i64 tn, .int .i64 tq, .slice mxa mxl mxc] 77)).drew.cell? ⟨w.heap.size, 0, none⟩ = some (.slice none 0 0) := rb0
                  have rdf : (wr.alloc (.cells #[.int .i64 1, .int .i64 mp, .int .i64 tk, .slice ta tl tc, .int .i64 tn, .int .i64 tq, .slice mxa mxl mxc] 77)).drew.frozen? ⟨w.heap.size, 0, none⟩ = false := rbf
                  have hne : wr.heap.size ≠ w.heap.size := by have := HS1.out.rb.lt; omega
                  have HNE : Hid (wr.heap.size ≠ w.heap.size) := hne
                  clear hne
                  go_wp2_with fail
                  refine wp_region_held_drew (S := fun w' => Bx w' wr.heap.size [.int .i64 1, .int .i64 mp, .int .i64 tk, .slice ta tl tc, .int .i64 tn, .int .i64 tq, .slice mxa mxl mxc]) (by kernel_rfl) ?_ (fun hHeld => ?_)
                  · exact HTD.out
                  clear rb0 rbf hstr t1 HTD
                  generalize (wr.alloc (.cells #[.int .i64 1, .int .i64 mp, .int .i64 tk, .slice ta tl tc, .int .i64 tn, .int .i64 tq, .slice mxa mxl mxc] 77)).drew = wd at HWd rd0 rdf hHeld ⊢
                  refine take_at (i := 0) 85 (v := ?v11) rfl rfl (by kernel_rfl) (by kernel_rfl) (by kernel_rfl) (fun _ _ _ h => h) (Or.inl ⟨by rfl, ?y11⟩) hHeld ?r11
                  case y11 => (intro w' hSw; skip; go_simp; (try with_reducible rfl))
                  try simp only [Act.put, List.setIfInBounds_toArray, List.set_cons_zero, List.set_cons_succ]
                  refine take_at (i := 1) 86 (v := ?v12) rfl rfl (by kernel_rfl) (by kernel_rfl) (by kernel_rfl) (fun _ _ _ h => h) (Or.inl ⟨by rfl, ?y12⟩) hHeld ?r12
                  case y12 => (intro w' hSw; skip; go_simp; (try with_reducible rfl))
                  try simp only [Act.put, List.setIfInBounds_toArray, List.set_cons_zero, List.set_cons_succ]
                  refine take_at (i := 2) 87 (v := ?v13) rfl rfl (by kernel_rfl) (by kernel_rfl) (by kernel_rfl) (fun _ _ _ h => h) (Or.inl ⟨by rfl, ?y13⟩) hHeld ?r13
                  case y13 => (intro w' hSw; have q1 := hSw.c 1 _ rfl; go_simp; (try with_reducible rfl))
                  try simp only [Act.put, List.setIfInBounds_toArray, List.set_cons_zero, List.set_cons_succ]
                  refine wpAnyH_ready (rs := [3]) (by kernel_rfl) (by simp) ?_
                  refine AllReadyH.cons rfl (fun K hK => ?_) AllReadyH.nil
                  go_simp
                  refine hK.out _ _ ?_ (fun hHeld => ?_)
                  · exact (hHeld.other 0 _ HNE.out)
                  clear hK K
                  try simp only [Act.put, List.setIfInBounds_toArray, List.set_cons_zero, List.set_cons_succ]
                  refine take_at (i := 4) 3 (v := ?v14) rfl rfl (by kernel_rfl) (by kernel_rfl) (by kernel_rfl) (fun _ _ _ h => h) (Or.inl ⟨by rfl, ?y14⟩) hHeld ?r14
                  case y14 => (intro w' hSw; skip; go_simp; (try with_reducible rfl))
                  try simp only [Act.put, List.setIfInBounds_toArray, List.set_cons_zero, List.set_cons_succ]
                  refine take_at (i := 5) 4 (v := ?v15) rfl rfl (by kernel_rfl) (by kernel_rfl) (by kernel_rfl) (fun _ _ _ h => h) (Or.inl ⟨by rfl, ?y15⟩) hHeld ?r15
                  case y15 => (intro w' hSw; skip; go_simp; (try with_reducible rfl))
                  try simp only [Act.put, List.setIfInBounds_toArray, List.set_cons_zero, List.set_cons_succ]
                  refine wpAnyH_done (by kernel_rfl) ?_ _
                  clear hHeld
                  go_wp2_with fail
                  exact bodyPost_ret (v := .tuple #[.agg #[.slice none 0 0], .int .i64 3, .int .i64 mp]) (by simp [results, Tryz.results20, go_sem, *]) rfl ⟨bl_set HWd.out (Nat.le_refl _) _, .inl ⟨3, mp, HRF.out, rfl⟩⟩
              · have hq1 : (mk == 1) = false := by rw [HKD.out, kindM_one]; exact decide_eq_false hk0
                have HNOK : Hid (okK 1 x.2 = false) := by show okK 1 x.2 = false; simp [okK, okProp, hk0]
                clear hk0
                have HRF : Hid (Refuses bs len 3 mp) := by
                  show Refuses bs len 3 mp
                  rw [HPP.out]
                  exact HBAD.out (HNOK.out)
                have HWd : Hid (Below w.heap.size w (wr.alloc (.cells #[.int .i64 mk, .int .i64 mp, .int .i64 tk, .slice ta tl tc, .int .i64 tn, .int .i64 tq, .slice mxa mxl mxc] 77)).drew) := Below.drew HSn.out.bel
                have HTD : Hid (Bx (wr.alloc (.cells #[.int .i64 mk, .int .i64 mp, .int .i64 tk, .slice ta tl tc, .int .i64 tn, .int .i64 tq, .slice mxa mxl mxc] 77)).drew wr.heap.size [.int .i64 mk, .int .i64 mp, .int .i64 tk, .slice ta tl tc, .int .i64 tn, .int .i64 tq, .slice mxa mxl mxc]) := (Bx.new wr _ _ 77 rfl).below (Below.drew (Below.refl _ _))
                have rd0 : (wr.alloc (.cells #[.int .i64 mk, .int .i64 mp, .int .i64 tk, .slice ta tl tc, .int .i64 tn, .int .i64 tq, .slice mxa mxl mxc] 77)).drew.cell? ⟨w.heap.size, 0, none⟩ = some (.slice none 0 0) := rb0
                have rdf : (wr.alloc (.cells #[.int .i64 mk, .int .i64 mp, .int .i64 tk, .slice ta tl tc, .int .i64 tn, .int .i64 tq, .slice mxa mxl mxc] 77)).drew.frozen? ⟨w.heap.size, 0, none⟩ = false := rbf
                have hne : wr.heap.size ≠ w.heap.size := by have := HS1.out.rb.lt; omega
                have HNE : Hid (wr.heap.size ≠ w.heap.size) := hne
                clear hne
                go_wp2_with fail
                refine wp_region_held_drew (S := fun w' => Bx w' wr.heap.size [.int .i64 mk, .int .i64 mp, .int .i64 tk, .slice ta tl tc, .int .i64 tn, .int .i64 tq, .slice mxa mxl mxc]) (by kernel_rfl) ?_ (fun hHeld => ?_)
                · exact HTD.out
                clear rb0 rbf hstr t1 HTD
                generalize (wr.alloc (.cells #[.int .i64 mk, .int .i64 mp, .int .i64 tk, .slice ta tl tc, .int .i64 tn, .int .i64 tq, .slice mxa mxl mxc] 77)).drew = wd at HWd rd0 rdf hHeld ⊢
                refine take_at (i := 0) 85 (v := ?v16) rfl rfl (by kernel_rfl) (by kernel_rfl) (by kernel_rfl) (fun _ _ _ h => h) (Or.inl ⟨by rfl, ?y16⟩) hHeld ?r16
                case y16 => (intro w' hSw; skip; go_simp; (try with_reducible rfl))
                try simp only [Act.put, List.setIfInBounds_toArray, List.set_cons_zero, List.set_cons_succ]
                refine take_at (i := 1) 86 (v := ?v17) rfl rfl (by kernel_rfl) (by kernel_rfl) (by kernel_rfl) (fun _ _ _ h => h) (Or.inl ⟨by rfl, ?y17⟩) hHeld ?r17
                case y17 => (intro w' hSw; skip; go_simp; (try with_reducible rfl))
                try simp only [Act.put, List.setIfInBounds_toArray, List.set_cons_zero, List.set_cons_succ]
                refine take_at (i := 2) 87 (v := ?v18) rfl rfl (by kernel_rfl) (by kernel_rfl) (by kernel_rfl) (fun _ _ _ h => h) (Or.inl ⟨by rfl, ?y18⟩) hHeld ?r18
                case y18 => (intro w' hSw; have q1 := hSw.c 1 _ rfl; go_simp; (try with_reducible rfl))
                try simp only [Act.put, List.setIfInBounds_toArray, List.set_cons_zero, List.set_cons_succ]
                refine wpAnyH_ready (rs := [3]) (by kernel_rfl) (by simp) ?_
                refine AllReadyH.cons rfl (fun K hK => ?_) AllReadyH.nil
                go_simp
                refine hK.out _ _ ?_ (fun hHeld => ?_)
                · exact (hHeld.other 0 _ HNE.out)
                clear hK K
                try simp only [Act.put, List.setIfInBounds_toArray, List.set_cons_zero, List.set_cons_succ]
                refine take_at (i := 4) 3 (v := ?v19) rfl rfl (by kernel_rfl) (by kernel_rfl) (by kernel_rfl) (fun _ _ _ h => h) (Or.inl ⟨by rfl, ?y19⟩) hHeld ?r19
                case y19 => (intro w' hSw; skip; go_simp; (try with_reducible rfl))
                try simp only [Act.put, List.setIfInBounds_toArray, List.set_cons_zero, List.set_cons_succ]
                refine take_at (i := 5) 4 (v := ?v20) rfl rfl (by kernel_rfl) (by kernel_rfl) (by kernel_rfl) (fun _ _ _ h => h) (Or.inl ⟨by rfl, ?y20⟩) hHeld ?r20
                case y20 => (intro w' hSw; skip; go_simp; (try with_reducible rfl))
                try simp only [Act.put, List.setIfInBounds_toArray, List.set_cons_zero, List.set_cons_succ]
                refine wpAnyH_done (by kernel_rfl) ?_ _
                clear hHeld
                go_wp2_with fail
                exact bodyPost_ret (v := .tuple #[.agg #[.slice none 0 0], .int .i64 3, .int .i64 mp]) (by simp [results, Tryz.results20, go_sem, *]) rfl ⟨bl_set HWd.out (Nat.le_refl _) _, .inl ⟨3, mp, HRF.out, rfl⟩⟩
            · have hi2z : (i : Int) + 2 < (n : Int) := by omega
              have hi20 : (0 : Int) ≤ (i : Int) + 2 := by omega
              have hge2 : ¬ (n : Int) ≤ (i : Int) + 2 := by omega
              have r0 : wr.cell? ⟨gr, (i + 2) * 7, none⟩ = some _ := hcells 0 _ rfl
              have r1 : wr.cell? ⟨gr, (i + 2) * 7 + 1, none⟩ = some _ := hcells 1 _ rfl
              have r2 : wr.cell? ⟨gr, (i + 2) * 7 + 2, none⟩ = some _ := hcells 2 _ rfl
              have r3 : wr.cell? ⟨gr, (i + 2) * 7 + 3, none⟩ = some _ := hcells 3 _ rfl
              have r4 : wr.cell? ⟨gr, (i + 2) * 7 + 4, none⟩ = some _ := hcells 4 _ rfl
              have r5 : wr.cell? ⟨gr, (i + 2) * 7 + 5, none⟩ = some _ := hcells 5 _ rfl
              have r6 : wr.cell? ⟨gr, (i + 2) * 7 + 6, none⟩ = some _ := hcells 6 _ rfl
              clear hcells
              have HSn : Hid (GrSt w G len toks L (.slice (some ⟨gr, 0, none⟩) n vc) i ts l (.slice ga l.length gc) (wr.alloc (.cells #[.int .i64 mk, .int .i64 mp, .int .i64 tk, .slice ta tl tc, .int .i64 tn, .int .i64 tq, .slice mxa mxl mxc] 77))) := HS1.out.below (bl_a _)
              have hstr : (convert 22 9 (.slice mxa mxl mxc)).run Tryz.prog (wr.alloc (.cells #[.int .i64 mk, .int .i64 mp, .int .i64 tk, .slice ta tl tc, .int .i64 tn, .int .i64 tq, .slice mxa mxl mxc] 77)) = .ok (.string (strOfNums mxb)) (wr.alloc (.cells #[.int .i64 mk, .int .i64 mp, .int .i64 tk, .slice ta tl tc, .int .i64 tn, .int .i64 tq, .slice mxa mxl mxc] 77)) := (HLM.out.x.1.below (bl_a _)).str
              have t1 : (wr.alloc (.cells #[.int .i64 mk, .int .i64 mp, .int .i64 tk, .slice ta tl tc, .int .i64 tn, .int .i64 tq, .slice mxa mxl mxc] 77)).cell? ⟨wr.heap.size, 1, none⟩ = some (.int .i64 mp) := by simp [go_sem]
              have rb0 := HSn.out.rb.c 0 _ rfl
              have rbf := HSn.out.rb.f 0 (by simp)
              by_cases hk0 : x.2.kind = 0
              · have hmk : mk = 1 := by rw [HKD.out, hk0]; rfl
                subst hmk
                have HOK : Hid (okK 2 x.2 = true) := by show okK 2 x.2 = true; simp [okK, okTerm, hk0]
                clear hk0
                have HNX := HNEXT.out (HOK.out)
                have HNX' : Hid (∀ q y, q < 3 → toks[i + q]? = some y → okK q y.2 = true) := HNX
                clear HNX HNEXT HBAD
                go_wp2_with fail
                go_roundw
                case rel => exact ⟨3, by go_num, by omega, by omega, HSn, HNX'⟩
                case measure => simp [intOf]; try omega
              · have hq1 : (mk == 1) = false := by rw [HKD.out, kindM_one]; exact decide_eq_false hk0
                have HNOK : Hid (okK 2 x.2 = false) := by show okK 2 x.2 = false; simp [okK, okTerm, hk0]
                clear hk0
                have HRF : Hid (Refuses bs len 3 mp) := by
                  show Refuses bs len 3 mp
                  rw [HPP.out]
                  exact HBAD.out (HNOK.out)
                have HWd : Hid (Below w.heap.size w (wr.alloc (.cells #[.int .i64 mk, .int .i64 mp, .int .i64 tk, .slice ta tl tc, .int .i64 tn, .int .i64 tq, .slice mxa mxl mxc] 77)).drew) := Below.drew HSn.out.bel
                have HTD : Hid (Bx (wr.alloc (.cells #[.int .i64 mk, .int .i64 mp, .int .i64 tk, .slice ta tl tc, .int .i64 tn, .int .i64 tq, .slice mxa mxl mxc] 77)).drew wr.heap.size [.int .i64 mk, .int .i64 mp, .int .i64 tk, .slice ta tl tc, .int .i64 tn, .int .i64 tq, .slice mxa mxl mxc]) := (Bx.new wr _ _ 77 rfl).below (Below.drew (Below.refl _ _))
                have rd0 : (wr.alloc (.cells #[.int .i64 mk, .int .i64 mp, .int .i64 tk, .slice ta tl tc, .int .i64 tn, .int .i64 tq, .slice mxa mxl mxc] 77)).drew.cell? ⟨w.heap.size, 0, none⟩ = some (.slice none 0 0) := rb0
                have rdf : (wr.alloc (.cells #[.int .i64 mk, .int .i64 mp, .int .i64 tk, .slice ta tl tc, .int .i64 tn, .int .i64 tq, .slice mxa mxl mxc] 77)).drew.frozen? ⟨w.heap.size, 0, none⟩ = false := rbf
                have hne : wr.heap.size ≠ w.heap.size := by have := HS1.out.rb.lt; omega
                have HNE : Hid (wr.heap.size ≠ w.heap.size) := hne
                clear hne
                go_wp2_with fail
                refine wp_region_held_drew (S := fun w' => Bx w' wr.heap.size [.int .i64 mk, .int .i64 mp, .int .i64 tk, .slice ta tl tc, .int .i64 tn, .int .i64 tq, .slice mxa mxl mxc]) (by kernel_rfl) ?_ (fun hHeld => ?_)
                · exact HTD.out
                clear rb0 rbf hstr t1 HTD
                generalize (wr.alloc (.cells #[.int .i64 mk, .int .i64 mp, .int .i64 tk, .slice ta tl tc, .int .i64 tn, .int .i64 tq, .slice mxa mxl mxc] 77)).drew = wd at HWd rd0 rdf hHeld ⊢
                refine take_at (i := 0) 85 (v := ?v21) rfl rfl (by kernel_rfl) (by kernel_rfl) (by kernel_rfl) (fun _ _ _ h => h) (Or.inl ⟨by rfl, ?y21⟩) hHeld ?r21
                case y21 => (intro w' hSw; skip; go_simp; (try with_reducible rfl))
                try simp only [Act.put, List.setIfInBounds_toArray, List.set_cons_zero, List.set_cons_succ]
                refine take_at (i := 1) 86 (v := ?v22) rfl rfl (by kernel_rfl) (by kernel_rfl) (by kernel_rfl) (fun _ _ _ h => h) (Or.inl ⟨by rfl, ?y22⟩) hHeld ?r22
                case y22 => (intro w' hSw; skip; go_simp; (try with_reducible rfl))
                try simp only [Act.put, List.setIfInBounds_toArray, List.set_cons_zero, List.set_cons_succ]
                refine take_at (i := 2) 87 (v := ?v23) rfl rfl (by kernel_rfl) (by kernel_rfl) (by kernel_rfl) (fun _ _ _ h => h) (Or.inl ⟨by rfl, ?y23⟩) hHeld ?r23
                case y23 => (intro w' hSw; have q1 := hSw.c 1 _ rfl; go_simp; (try with_reducible rfl))
                try simp only [Act.put, List.setIfInBounds_toArray, List.set_cons_zero, List.set_cons_succ]
                refine wpAnyH_ready (rs := [3]) (by kernel_rfl) (by simp) ?_
                refine AllReadyH.cons rfl (fun K hK => ?_) AllReadyH.nil
                go_simp
                refine hK.out _ _ ?_ (fun hHeld => ?_)
                · exact (hHeld.other 0 _ HNE.out)
                clear hK K
                try simp only [Act.put, List.setIfInBounds_toArray, List.set_cons_zero, List.set_cons_succ]
                refine take_at (i := 4) 3 (v := ?v24) rfl rfl (by kernel_rfl) (by kernel_rfl) (by kernel_rfl) (fun _ _ _ h => h) (Or.inl ⟨by rfl, ?y24⟩) hHeld ?r24
                case y24 => (intro w' hSw; skip; go_simp; (try with_reducible rfl))
                try simp only [Act.put, List.setIfInBounds_toArray, List.set_cons_zero, List.set_cons_succ]
                refine take_at (i := 5) 4 (v := ?v25) rfl rfl (by kernel_rfl) (by kernel_rfl) (by kernel_rfl) (fun _ _ _ h => h) (Or.inl ⟨by rfl, ?y25⟩) hHeld ?r25
                case y25 => (intro w' hSw; skip; go_simp; (try with_reducible rfl))
                try simp only [Act.put, List.setIfInBounds_toArray, List.set_cons_zero, List.set_cons_succ]
                refine wpAnyH_done (by kernel_rfl) ?_ _
                clear hHeld
                go_wp2_with fail
                exact bodyPost_ret (v := .tuple #[.agg #[.slice none 0 0], .int .i64 3, .int .i64 mp]) (by simp [results, Tryz.results20, go_sem, *]) rfl ⟨bl_set HWd.out (Nat.le_refl _) _, .inl ⟨3, mp, HRF.out, rfl⟩⟩
            · have hi3z : (i : Int) + 3 < (n : Int) := by omega
              have hi30 : (0 : Int) ≤ (i : Int) + 3 := by omega
              have hge3 : ¬ (n : Int) ≤ (i : Int) + 3 := by omega
              have r0 : wr.cell? ⟨gr, (i + 3) * 7, none⟩ = some _ := hcells 0 _ rfl
              have r1 : wr.cell? ⟨gr, (i + 3) * 7 + 1, none⟩ = some _ := hcells 1 _ rfl
              have r2 : wr.cell? ⟨gr, (i + 3) * 7 + 2, none⟩ = some _ := hcells 2 _ rfl
              have r3 : wr.cell? ⟨gr, (i + 3) * 7 + 3, none⟩ = some _ := hcells 3 _ rfl
              have r4 : wr.cell? ⟨gr, (i + 3) * 7 + 4, none⟩ = some _ := hcells 4 _ rfl
              have r5 : wr.cell? ⟨gr, (i + 3) * 7 + 5, none⟩ = some _ := hcells 5 _ rfl
              have r6 : wr.cell? ⟨gr, (i + 3) * 7 + 6, none⟩ = some _ := hcells 6 _ rfl
              clear hcells
              have HSn : Hid (GrSt w G len toks L (.slice (some ⟨gr, 0, none⟩) n vc) i ts l (.slice ga l.length gc) (wr.alloc (.cells #[.int .i64 mk, .int .i64 mp, .int .i64 tk, .slice ta tl tc, .int .i64 tn, .int .i64 tq, .slice mxa mxl mxc] 77))) := HS1.out.below (bl_a _)
              have hstr : (convert 22 9 (.slice mxa mxl mxc)).run Tryz.prog (wr.alloc (.cells #[.int .i64 mk, .int .i64 mp, .int .i64 tk, .slice ta tl tc, .int .i64 tn, .int .i64 tq, .slice mxa mxl mxc] 77)) = .ok (.string (strOfNums mxb)) (wr.alloc (.cells #[.int .i64 mk, .int .i64 mp, .int .i64 tk, .slice ta tl tc, .int .i64 tn, .int .i64 tq, .slice mxa mxl mxc] 77)) := (HLM.out.x.1.below (bl_a _)).str
              have t1 : (wr.alloc (.cells #[.int .i64 mk, .int .i64 mp, .int .i64 tk, .slice ta tl tc, .int .i64 tn, .int .i64 tq, .slice mxa mxl mxc] 77)).cell? ⟨wr.heap.size, 1, none⟩ = some (.int .i64 mp) := by simp [go_sem]
              have rb0 := HSn.out.rb.c 0 _ rfl
              have rbf := HSn.out.rb.f 0 (by simp)
              by_cases hk0 : x.2.kind = 3
              · have hmk : mk = 5 := by rw [HKD.out, hk0]; rfl
                subst hmk
                have hxb : mxb = x.2.raw := by rw [HXB.out, txtM, if_neg (by omega), if_neg (by omega)]
                by_cases h46 : mxb = [46]
                · have HOK : Hid (okK 3 x.2 = true) := by
                    show okK 3 x.2 = true
                    have h : x.2.raw = [46] := by rw [← hxb]; exact h46
                    simp [okK, okStop, hk0, h]
                  rw [h46, show strOfNums [46] = ⟨#[46]⟩ from rfl] at hstr
                  clear hk0 hxb h46
                  have HNX := HNEXT.out (HOK.out)
                  have HNX' : Hid (∀ q y, q < 4 → toks[i + q]? = some y → okK q y.2 = true) := HNX
                  clear HNX HNEXT HBAD
                  go_wp2_with fail
                  go_roundw
                  case rel => exact ⟨4, by go_num, by omega, by omega, HSn, HNX'⟩
                  case measure => simp [intOf]; try omega
                · have HNOK : Hid (okK 3 x.2 = false) := by
                    show okK 3 x.2 = false
                    have h : x.2.raw ≠ [46] := by rw [← hxb]; exact h46
                    simp [okK, okStop, hk0, h]
                  have hne2 : (strOfNums mxb).toList ≠ (⟨#[46]⟩ : ByteArray).toList := strB_ne2 (b := [46]) (byt_raw HLM.out.x.1) (Byt.cons (by omega) Byt.nil) h46
                  have hne3 : ((strOfNums mxb).toList == [46]) = false := beq_eq_false_iff_ne.mpr (fun h => hne2 (h.trans (by first | decide | (simp [ByteArray.toList, ByteArray.toList.loop]; done) | kernel_rfl)))
                  clear hne2
                  clear hk0 hxb h46
                  have HRF : Hid (Refuses bs len 3 mp) := by
                    show Refuses bs len 3 mp
                    rw [HPP.out]
                    exact HBAD.out (HNOK.out)
                  have HWd : Hid (Below w.heap.size w (wr.alloc (.cells #[.int .i64 5, .int .i64 mp, .int .i64 tk, .slice ta tl tc, .int .i64 tn, .int .i64 tq, .slice mxa mxl mxc] 77)).drew) := Below.drew HSn.out.bel
                  have HTD : Hid (Bx (wr.alloc (.cells #[.int .i64 5, .int .i64 mp, .int .i64 tk, .slice ta tl tc, .int .i64 tn, .int .i64 tq, .slice mxa mxl mxc] 77)).drew wr.heap.size [.int .i64 5, .int .i64 mp, .int .i64 tk, .slice ta tl tc, .int .i64 tn, .int .i64 tq, .slice mxa mxl mxc]) := (Bx.new wr _ _ 77 rfl).below (Below.drew (Below.refl _ _))
                  have rd0 : (wr.alloc (.cells #[.int .i64 5, .int .i64 mp, .int .i64 tk, .slice ta tl tc, .int .i64 tn, .int .i64 tq, .slice mxa mxl mxc] 77)).drew.cell? ⟨w.heap.size, 0, none⟩ = some (.slice none 0 0) := rb0
                  have rdf : (wr.alloc (.cells #[.int .i64 5, .int .i64 mp, .int .i64 tk, .slice ta tl tc, .int .i64 tn, .int .i64 tq, .slice mxa mxl mxc] 77)).drew.frozen? ⟨w.heap.size, 0, none⟩ = false := rbf
                  have hne : wr.heap.size ≠ w.heap.size := by have := HS1.out.rb.lt; omega
                  have HNE : Hid (wr.heap.size ≠ w.heap.size) := hne
                  clear hne
                  go_wp2_with fail
                  refine wp_region_held_drew (S := fun w' => Bx w' wr.heap.size [.int .i64 5, .int .i64 mp, .int .i64 tk, .slice ta tl tc, .int .i64 tn, .int .i64 tq, .slice mxa mxl mxc]) (by kernel_rfl) ?_ (fun hHeld => ?_)
                  · exact HTD.out
                  clear rb0 rbf hstr t1 HTD
                  generalize (wr.alloc (.cells #[.int .i64 5, .int .i64 mp, .int .i64 tk, .slice ta tl tc, .int .i64 tn, .int .i64 tq, .slice mxa mxl mxc] 77)).drew = wd at HWd rd0 rdf hHeld ⊢
                  refine take_at (i := 0) 85 (v := ?v26) rfl rfl (by kernel_rfl) (by kernel_rfl) (by kernel_rfl) (fun _ _ _ h => h) (Or.inl ⟨by rfl, ?y26⟩) hHeld ?r26
                  case y26 => (intro w' hSw; skip; go_simp; (try with_reducible rfl))
                  try simp only [Act.put, List.setIfInBounds_toArray, List.set_cons_zero, List.set_cons_succ]
                  refine take_at (i := 1) 86 (v := ?v27) rfl rfl (by kernel_rfl) (by kernel_rfl) (by kernel_rfl) (fun _ _ _ h => h) (Or.inl ⟨by rfl, ?y27⟩) hHeld ?r27
                  case y27 => (intro w' hSw; skip; go_simp; (try with_reducible rfl))
                  try simp only [Act.put, List.setIfInBounds_toArray, List.set_cons_zero, List.set_cons_succ]
                  refine take_at (i := 2) 87 (v := ?v28) rfl rfl (by kernel_rfl) (by kernel_rfl) (by kernel_rfl) (fun _ _ _ h => h) (Or.inl ⟨by rfl, ?y28⟩) hHeld ?r28
                  case y28 => (intro w' hSw; have q1 := hSw.c 1 _ rfl; go_simp; (try with_reducible rfl))
                  try simp only [Act.put, List.setIfInBounds_toArray, List.set_cons_zero, List.set_cons_succ]
                  refine wpAnyH_ready (rs := [3]) (by kernel_rfl) (by simp) ?_
                  refine AllReadyH.cons rfl (fun K hK => ?_) AllReadyH.nil
                  go_simp
                  refine hK.out _ _ ?_ (fun hHeld => ?_)
                  · exact (hHeld.other 0 _ HNE.out)
                  clear hK K
                  try simp only [Act.put, List.setIfInBounds_toArray, List.set_cons_zero, List.set_cons_succ]
                  refine take_at (i := 4) 3 (v := ?v29) rfl rfl (by kernel_rfl) (by kernel_rfl) (by kernel_rfl) (fun _ _ _ h => h) (Or.inl ⟨by rfl, ?y29⟩) hHeld ?r29
                  case y29 => (intro w' hSw; skip; go_simp; (try with_reducible rfl))
                  try simp only [Act.put, List.setIfInBounds_toArray, List.set_cons_zero, List.set_cons_succ]
                  refine take_at (i := 5) 4 (v := ?v30) rfl rfl (by kernel_rfl) (by kernel_rfl) (by kernel_rfl) (fun _ _ _ h => h) (Or.inl ⟨by rfl, ?y30⟩) hHeld ?r30
                  case y30 => (intro w' hSw; skip; go_simp; (try with_reducible rfl))
                  try simp only [Act.put, List.setIfInBounds_toArray, List.set_cons_zero, List.set_cons_succ]
                  refine wpAnyH_done (by kernel_rfl) ?_ _
                  clear hHeld
                  go_wp2_with fail
                  exact bodyPost_ret (v := .tuple #[.agg #[.slice none 0 0], .int .i64 3, .int .i64 mp]) (by simp [results, Tryz.results20, go_sem, *]) rfl ⟨bl_set HWd.out (Nat.le_refl _) _, .inl ⟨3, mp, HRF.out, rfl⟩⟩
              · have hq1 : (mk == 5) = false := by rw [HKD.out, kindM_five HMX.out.1]; exact decide_eq_false hk0
                have HNOK : Hid (okK 3 x.2 = false) := by show okK 3 x.2 = false; simp [okK, okStop, hk0]
                clear hk0
                have HRF : Hid (Refuses bs len 3 mp) := by
                  show Refuses bs len 3 mp
                  rw [HPP.out]
                  exact HBAD.out (HNOK.out)
                have HWd : Hid (Below w.heap.size w (wr.alloc (.cells #[.int .i64 mk, .int .i64 mp, .int .i64 tk, .slice ta tl tc, .int .i64 tn, .int .i64 tq, .slice mxa mxl mxc] 77)).drew) := Below.drew HSn.out.bel
                have HTD : Hid (Bx (wr.alloc (.cells #[.int .i64 mk, .int .i64 mp, .int .i64 tk, .slice ta tl tc, .int .i64 tn, .int .i64 tq, .slice mxa mxl mxc] 77)).drew wr.heap.size [.int .i64 mk, .int .i64 mp, .int .i64 tk, .slice ta tl tc, .int .i64 tn, .int .i64 tq, .slice mxa mxl mxc]) := (Bx.new wr _ _ 77 rfl).below (Below.drew (Below.refl _ _))
                have rd0 : (wr.alloc (.cells #[.int .i64 mk, .int .i64 mp, .int .i64 tk, .slice ta tl tc, .int .i64 tn, .int .i64 tq, .slice mxa mxl mxc] 77)).drew.cell? ⟨w.heap.size, 0, none⟩ = some (.slice none 0 0) := rb0
                have rdf : (wr.alloc (.cells #[.int .i64 mk, .int .i64 mp, .int .i64 tk, .slice ta tl tc, .int .i64 tn, .int .i64 tq, .slice mxa mxl mxc] 77)).drew.frozen? ⟨w.heap.size, 0, none⟩ = false := rbf
                have hne : wr.heap.size ≠ w.heap.size := by have := HS1.out.rb.lt; omega
                have HNE : Hid (wr.heap.size ≠ w.heap.size) := hne
                clear hne
                go_wp2_with fail
                refine wp_region_held_drew (S := fun w' => Bx w' wr.heap.size [.int .i64 mk, .int .i64 mp, .int .i64 tk, .slice ta tl tc, .int .i64 tn, .int .i64 tq, .slice mxa mxl mxc]) (by kernel_rfl) ?_ (fun hHeld => ?_)
                · exact HTD.out
                clear rb0 rbf hstr t1 HTD
                generalize (wr.alloc (.cells #[.int .i64 mk, .int .i64 mp, .int .i64 tk, .slice ta tl tc, .int .i64 tn, .int .i64 tq, .slice mxa mxl mxc] 77)).drew = wd at HWd rd0 rdf hHeld ⊢
                refine take_at (i := 0) 85 (v := ?v31) rfl rfl (by kernel_rfl) (by kernel_rfl) (by kernel_rfl) (fun _ _ _ h => h) (Or.inl ⟨by rfl, ?y31⟩) hHeld ?r31
                case y31 => (intro w' hSw; skip; go_simp; (try with_reducible rfl))
                try simp only [Act.put, List.setIfInBounds_toArray, List.set_cons_zero, List.set_cons_succ]
                refine take_at (i := 1) 86 (v := ?v32) rfl rfl (by kernel_rfl) (by kernel_rfl) (by kernel_rfl) (fun _ _ _ h => h) (Or.inl ⟨by rfl, ?y32⟩) hHeld ?r32
                case y32 => (intro w' hSw; skip; go_simp; (try with_reducible rfl))
                try simp only [Act.put, List.setIfInBounds_toArray, List.set_cons_zero, List.set_cons_succ]
                refine take_at (i := 2) 87 (v := ?v33) rfl rfl (by kernel_rfl) (by kernel_rfl) (by kernel_rfl) (fun _ _ _ h => h) (Or.inl ⟨by rfl, ?y33⟩) hHeld ?r33
                case y33 => (intro w' hSw; have q1 := hSw.c 1 _ rfl; go_simp; (try with_reducible rfl))
                try simp only [Act.put, List.setIfInBounds_toArray, List.set_cons_zero, List.set_cons_succ]
                refine wpAnyH_ready (rs := [3]) (by kernel_rfl) (by simp) ?_
                refine AllReadyH.cons rfl (fun K hK => ?_) AllReadyH.nil
                go_simp
                refine hK.out _ _ ?_ (fun hHeld => ?_)
                · exact (hHeld.other 0 _ HNE.out)
                clear hK K
                try simp only [Act.put, List.setIfInBounds_toArray, List.set_cons_zero, List.set_cons_succ]
                refine take_at (i := 4) 3 (v := ?v34) rfl rfl (by kernel_rfl) (by kernel_rfl) (by kernel_rfl) (fun _ _ _ h => h) (Or.inl ⟨by rfl, ?y34⟩) hHeld ?r34
                case y34 => (intro w' hSw; skip; go_simp; (try with_reducible rfl))
                try simp only [Act.put, List.setIfInBounds_toArray, List.set_cons_zero, List.set_cons_succ]
                refine take_at (i := 5) 4 (v := ?v35) rfl rfl (by kernel_rfl) (by kernel_rfl) (by kernel_rfl) (fun _ _ _ h => h) (Or.inl ⟨by rfl, ?y35⟩) hHeld ?r35
                case y35 => (intro w' hSw; skip; go_simp; (try with_reducible rfl))
                try simp only [Act.put, List.setIfInBounds_toArray, List.set_cons_zero, List.set_cons_succ]
                refine wpAnyH_done (by kernel_rfl) ?_ _
                clear hHeld
                go_wp2_with fail
                exact bodyPost_ret (v := .tuple #[.agg #[.slice none 0 0], .int .i64 3, .int .i64 mp]) (by simp [results, Tryz.results20, go_sem, *]) rfl ⟨bl_set HWd.out (Nat.le_refl _) _, .inl ⟨3, mp, HRF.out, rfl⟩⟩
          · have HBAD : Hid (Refuses bs len 3 len) := by
              have hb := (group_bad (l := toks.drop i) (e := len) (k := k) hk (fun q y hq hy => HK.out q y hq (by rw [List.getElem?_drop] at hy; exact hy)) (by rw [List.length_drop, ← HARE.out.len, ← HN.out]; omega)).1 (by rw [List.length_drop, ← HARE.out.len, ← HN.out]; omega)
              have hr := HS1.out.rd
              rw [readR_bad hb (by intro h0; have h1 := congrArg List.length h0; rw [List.length_drop, ← HARE.out.len, ← HN.out] at h1; simp at h1; omega)] at hr
              exact .form toks len HLL.out HTK.out (by rw [← hr]; rfl)
            have hkz : (k : Int) < 4 := by omega
            have hgez : (n : Int) ≤ (i : Int) + (k : Int) := by omega
            have rb0 := HS1.out.rb.c 0 _ rfl
            have rbf := HS1.out.rb.f 0 (by simp)
            clear HK
            go_wp2_with fail
            exact bodyPost_ret (v := .tuple #[.agg #[.slice none 0 0], .int .i64 3, .int .i64 len]) (by simp [results, Tryz.results20, go_sem, *]) rfl ⟨bl_set HS1.out.bel (Nat.le_refl _) _, .inl ⟨3, len, HBAD.out, rfl⟩⟩
        · obtain rfl : k = 4 := by omega
          have hli := HARE.out.len
          have hnl := HN.out
          obtain ⟨xa, xb, xc, xd, xr, hdr, htr, hsa, hsb, hsc⟩ := group_ok (l := toks.drop i) (e := len) (fun q y hq hy => HK.out q y hq (by rw [List.getElem?_drop] at hy; exact hy)) (by rw [List.length_drop, ← hli, ← hnl]; omega)
          have hx0 : toks[i]? = some xa := by have h := congrArg (fun z : Toks => z[0]?) hdr; simpa [List.getElem?_drop] using h
          have hx1 : toks[i + 1]? = some xb := by have h := congrArg (fun z : Toks => z[1]?) hdr; simpa [List.getElem?_drop] using h
          have hx2 : toks[i + 2]? = some xc := by have h := congrArg (fun z : Toks => z[2]?) hdr; simpa [List.getElem?_drop] using h
          obtain ⟨m0, hm0⟩ : ∃ m, L[i]? = some m := ⟨_, List.getElem?_eq_getElem (by omega)⟩
          obtain ⟨m1, hm1⟩ : ∃ m, L[i + 1]? = some m := ⟨_, List.getElem?_eq_getElem (by omega)⟩
          obtain ⟨m2, hm2⟩ : ∃ m, L[i + 2]? = some m := ⟨_, List.getElem?_eq_getElem (by omega)⟩
          have HSd : Hid (GrSt w G len toks L (.slice va n vc) i ts l (.slice ga l.length gc) wr.drew) := HS1.out.below (Below.drew (Below.refl _ _))
          have TG := tri_good (HARE.out.get hm0 hx0) (HARE.out.get hm1 hx1) (HARE.out.get hm2 hx2) (HSd.out.tl m0 (List.mem_of_getElem? hm0)) (HSd.out.tl m1 (List.mem_of_getElem? hm1)) (HSd.out.tl m2 (List.mem_of_getElem? hm2)) hsa hsb hsc (HMAY.out xc (List.mem_of_getElem? hx2))
          have HTG : Hid ((tri m0 m1 m2).td3 = (xa.2.td, xb.2.td, xc.2.td) ∧ (tri m0 m1 m2).good ∧ (tri m0 m1 m2).lies0 wr.drew ∧ fine3 (tri m0 m1 m2).td3) := TG
          have HDR : Hid (toks.drop i = xa :: xb :: xc :: xd :: xr) := hdr
          have HTR : Hid (triP (toks.drop i) len = .ok ((xa.2.td, xb.2.td, xc.2.td), xr)) := htr
          obtain ⟨gr, cr, hvr, hcr, hc0⟩ := HSd.out.row.at hm0
          obtain ⟨_, _, hvr1, _, hc1⟩ := HSd.out.row.at hm1
          obtain ⟨_, _, hvr2, _, hc2⟩ := HSd.out.row.at hm2
          rw [hvr] at hvr1 hvr2
          simp only [Value.slice.injEq, Option.some.injEq, Addr.mk.injEq] at hvr1 hvr2
          obtain ⟨⟨rfl, -⟩, -, rfl⟩ := hvr1
          obtain ⟨⟨rfl, -⟩, -, rfl⟩ := hvr2
          simp only [Value.slice.injEq] at hvr
          obtain ⟨rfl, -, rfl⟩ := hvr
          have HGR : Hid (gr < G) := HS1.out.rowlt gr rfl
          have HGW : Hid (G < wr.drew.heap.size) := HSd.out.gb.lt
          obtain ⟨mk0, mp0, ⟨tk0, ta0, tl0, tc0, tn0, tq0⟩, mtb0, mxa0, mxl0, mxc0, mxb0⟩ := m0
          obtain ⟨mk1, mp1, ⟨tk1, ta1, tl1, tc1, tn1, tq1⟩, mtb1, mxa1, mxl1, mxc1, mxb1⟩ := m1
          obtain ⟨mk2, mp2, ⟨tk2, ta2, tl2, tc2, tn2, tq2⟩, mtb2, mxa2, mxl2, mxc2, mxb2⟩ := m2
          have r2 : wr.drew.cell? ⟨gr, i * 7 + 2, none⟩ = some _ := hc0 2 _ rfl
          have r3 : wr.drew.cell? ⟨gr, i * 7 + 3, none⟩ = some _ := hc0 3 _ rfl
          have r4 : wr.drew.cell? ⟨gr, i * 7 + 4, none⟩ = some _ := hc0 4 _ rfl
          have r5 : wr.drew.cell? ⟨gr, i * 7 + 5, none⟩ = some _ := hc0 5 _ rfl
          have s2 : wr.drew.cell? ⟨gr, (i + 1) * 7 + 2, none⟩ = some _ := hc1 2 _ rfl
          have s3 : wr.drew.cell? ⟨gr, (i + 1) * 7 + 3, none⟩ = some _ := hc1 3 _ rfl
          have s4 : wr.drew.cell? ⟨gr, (i + 1) * 7 + 4, none⟩ = some _ := hc1 4 _ rfl
          have s5 : wr.drew.cell? ⟨gr, (i + 1) * 7 + 5, none⟩ = some _ := hc1 5 _ rfl
          have t2 : wr.drew.cell? ⟨gr, (i + 2) * 7 + 2, none⟩ = some _ := hc2 2 _ rfl
          have t3 : wr.drew.cell? ⟨gr, (i + 2) * 7 + 3, none⟩ = some _ := hc2 3 _ rfl
          have t4 : wr.drew.cell? ⟨gr, (i + 2) * 7 + 4, none⟩ = some _ := hc2 4 _ rfl
          have t5 : wr.drew.cell? ⟨gr, (i + 2) * 7 + 5, none⟩ = some _ := hc2 5 _ rfl
          have hxg := HTG.out
          have HPUT : Hid (Calls Tryz.prog 52 #[.slice ga l.length gc, .agg #[.int .i64 tk0, .slice ta0 tl0 tc0, .int .i64 tn0, .int .i64 tq0, .int .i64 tk1, .slice ta1 tl1 tc1, .int .i64 tn1, .int .i64 tq1, .int .i64 tk2, .slice ta2 tl2 tc2, .int .i64 tn2, .int .i64 tq2]] wr.drew (PutS wr.drew (G + 1) l (tri ⟨mk0, mp0, ⟨tk0, ta0, tl0, tc0, tn0, tq0⟩, mtb0, mxa0, mxl0, mxc0, mxb0⟩ ⟨mk1, mp1, ⟨tk1, ta1, tl1, tc1, tn1, tq1⟩, mtb1, mxa1, mxl1, mxc1, mxb1⟩ ⟨mk2, mp2, ⟨tk2, ta2, tl2, tc2, tn2, tq2⟩, mtb2, mxa2, mxl2, mxc2, mxb2⟩))) := l2put_good ga gc l (tri ⟨mk0, mp0, ⟨tk0, ta0, tl0, tc0, tn0, tq0⟩, mtb0, mxa0, mxl0, mxc0, mxb0⟩ ⟨mk1, mp1, ⟨tk1, ta1, tl1, tc1, tn1, tq1⟩, mtb1, mxa1, mxl1, mxc1, mxb1⟩ ⟨mk2, mp2, ⟨tk2, ta2, tl2, tc2, tn2, tq2⟩, mtb2, mxa2, mxl2, mxc2, mxb2⟩) wr.drew (G + 1) (by have := HS1.out.few; have := HLL.out; omega) HSd.out.own HSd.out.gb.lt (fun y hy => ⟨(HSd.out.good y hy).1, (HSd.out.good y hy).2.1.lies⟩) ⟨hxg.2.1, hxg.2.2.1.lies⟩
          have HIK : Hid (i + 4 ≤ n) := hik
          have i0z : (i : Int) < (n : Int) := by omega
          have i1z : (i : Int) + 1 < (n : Int) := by omega
          have i2z : (i : Int) + 2 < (n : Int) := by omega
          have i1p : (0 : Int) ≤ (i : Int) + 1 := by omega
          have i2p : (0 : Int) ≤ (i : Int) + 2 := by omega
          have hw1 : IntKind.i64.wrap ((i : Int) + 1) = (i : Int) + 1 := by rw [IntKind.wrap_i64]; have := HLL.out; omega
          have hw2 : IntKind.i64.wrap ((i : Int) + 2) = (i : Int) + 2 := by rw [IntKind.wrap_i64]; have := HLL.out; omega
          have hn1 : ((i : Int) + 1).toNat = i + 1 := by omega
          have hn2 : ((i : Int) + 2).toNat = i + 2 := by omega
          have gd0 := HSd.out.gb.c 0 _ rfl
          have gdf := HSd.out.gb.f 0 (by simp)
          clear TG hxg hdr htr hsa hsb hsc hx0 hx1 hx2 hm0 hm1 hm2 hc0 hc1 hc2 hli hnl HK hcr hik
          go_wp2_with fail
          refine wp_region_held_drew (S := fun w' => ∀ j, w'.cell? ⟨gr, j, none⟩ = wr.drew.cell? ⟨gr, j, none⟩) (by kernel_rfl) ?_ (fun hHeld => ?_)
          · exact fun _ => rfl
          obtain ⟨wd, hwd⟩ : ∃ wd, wd = wr.drew := ⟨_, rfl⟩
          rw [← hwd] at HSd HTG HPUT HGW gd0 gdf hHeld r2 r3 r4 r5 s2 s3 s4 s5 t2 t3 t4 t5 ⊢
          clear hwd HS1
          refine take_at (i := 0) 88 (v := ?v36) rfl rfl (by kernel_rfl) (by kernel_rfl) (by kernel_rfl) (fun _ _ _ h => h) (Or.inl ⟨by rfl, ?y36⟩) hHeld ?r36
          case y36 => (intro w' hSw; skip; go_simp; (try with_reducible rfl))
          try simp only [Act.put, List.setIfInBounds_toArray, List.set_cons_zero, List.set_cons_succ]
          refine take_at (i := 2) 90 (v := ?v37) rfl rfl (by kernel_rfl) (by kernel_rfl) (by kernel_rfl) (fun _ _ _ h => h) (Or.inl ⟨by rfl, ?y37⟩) hHeld ?r37
          case y37 => (intro w' hSw; skip; go_simp; (try with_reducible rfl))
          try simp only [Act.put, List.setIfInBounds_toArray, List.set_cons_zero, List.set_cons_succ]
          refine take_at (i := 3) 91 (v := ?v38) rfl rfl (by kernel_rfl) (by kernel_rfl) (by kernel_rfl) (fun _ _ _ h => h) (Or.inl ⟨by rfl, ?y38⟩) hHeld ?r38
          case y38 => (intro w' hSw; skip; go_simp; (try with_reducible rfl))
          try simp only [Act.put, List.setIfInBounds_toArray, List.set_cons_zero, List.set_cons_succ]
          refine take_at (i := 4) 92 (v := ?v39) rfl rfl (by kernel_rfl) (by kernel_rfl) (by kernel_rfl) (fun _ _ _ h => h) (Or.inl ⟨by rfl, ?y39⟩) hHeld ?r39
          case y39 => (intro w' hSw; skip; go_simp; (try with_reducible rfl))
          try simp only [Act.put, List.setIfInBounds_toArray, List.set_cons_zero, List.set_cons_succ]
          refine take_at (i := 5) 93 (v := ?v40) rfl rfl (by kernel_rfl) (by kernel_rfl) (by kernel_rfl) (fun _ _ _ h => h) (Or.inl ⟨by rfl, ?y40⟩) hHeld ?r40
          case y40 => (intro w' hSw; skip; go_simp; (try with_reducible rfl))
          try simp only [Act.put, List.setIfInBounds_toArray, List.set_cons_zero, List.set_cons_succ]
          refine take_at (i := 6) 94 (v := ?v41) rfl rfl (by kernel_rfl) (by kernel_rfl) (by kernel_rfl) (fun _ _ _ h => h) (Or.inl ⟨by rfl, ?y41⟩) hHeld ?r41
          case y41 => (intro w' hSw; have k2 := (hSw _).trans r2; have k3 := (hSw _).trans r3; have k4 := (hSw _).trans r4; have k5 := (hSw _).trans r5; go_simp; (try with_reducible rfl))
          try simp only [Act.put, List.setIfInBounds_toArray, List.set_cons_zero, List.set_cons_succ]
          refine take_at (i := 7) 95 (v := ?v42) rfl rfl (by kernel_rfl) (by kernel_rfl) (by kernel_rfl) (fun _ _ _ h => h) (Or.inl ⟨by rfl, ?y42⟩) hHeld ?r42
          case y42 => (intro w' hSw; skip; go_simp; (try with_reducible rfl))
          try simp only [Act.put, List.setIfInBounds_toArray, List.set_cons_zero, List.set_cons_succ]
          refine take_at (i := 8) 96 (v := ?v43) rfl rfl (by kernel_rfl) (by kernel_rfl) (by kernel_rfl) (fun _ _ _ h => h) (Or.inl ⟨by rfl, ?y43⟩) hHeld ?r43
          case y43 => (intro w' hSw; skip; go_simp; (try with_reducible rfl))
          try simp only [Act.put, List.setIfInBounds_toArray, List.set_cons_zero, List.set_cons_succ]
          refine take_at (i := 9) 97 (v := .int .i64 ((i : Int) + 1)) rfl rfl (by kernel_rfl) (by kernel_rfl) (by kernel_rfl) (fun _ _ _ h => h) (Or.inl ⟨by rfl, ?y44⟩) hHeld ?r44
          case y44 => (intro w' hSw; skip; go_simp; (try with_reducible rfl))
          try simp only [Act.put, List.setIfInBounds_toArray, List.set_cons_zero, List.set_cons_succ]
          refine take_at (i := 10) 98 (v := .pointer (some ⟨gr, (i + 1) * 7, none⟩)) rfl rfl (by kernel_rfl) (by kernel_rfl) (by kernel_rfl) (fun _ _ _ h => h) (Or.inl ⟨by rfl, ?y45⟩) hHeld ?r45
          case y45 => (intro w' hSw; skip; go_simp; (try with_reducible rfl))
          try simp only [Act.put, List.setIfInBounds_toArray, List.set_cons_zero, List.set_cons_succ]
          refine take_at (i := 11) 99 (v := ?v46) rfl rfl (by kernel_rfl) (by kernel_rfl) (by kernel_rfl) (fun _ _ _ h => h) (Or.inl ⟨by rfl, ?y46⟩) hHeld ?r46
          case y46 => (intro w' hSw; skip; go_simp; (try with_reducible rfl))
          try simp only [Act.put, List.setIfInBounds_toArray, List.set_cons_zero, List.set_cons_succ]
          refine take_at (i := 12) 100 (v := ?v47) rfl rfl (by kernel_rfl) (by kernel_rfl) (by kernel_rfl) (fun _ _ _ h => h) (Or.inl ⟨by rfl, ?y47⟩) hHeld ?r47
          case y47 => (intro w' hSw; have k2 := (hSw _).trans s2; have k3 := (hSw _).trans s3; have k4 := (hSw _).trans s4; have k5 := (hSw _).trans s5; go_simp; (try with_reducible rfl))
          try simp only [Act.put, List.setIfInBounds_toArray, List.set_cons_zero, List.set_cons_succ]
          refine take_at (i := 13) 101 (v := ?v48) rfl rfl (by kernel_rfl) (by kernel_rfl) (by kernel_rfl) (fun _ _ _ h => h) (Or.inl ⟨by rfl, ?y48⟩) hHeld ?r48
          case y48 => (intro w' hSw; skip; go_simp; (try with_reducible rfl))
          try simp only [Act.put, List.setIfInBounds_toArray, List.set_cons_zero, List.set_cons_succ]
          refine take_at (i := 14) 102 (v := ?v49) rfl rfl (by kernel_rfl) (by kernel_rfl) (by kernel_rfl) (fun _ _ _ h => h) (Or.inl ⟨by rfl, ?y49⟩) hHeld ?r49
          case y49 => (intro w' hSw; skip; go_simp; (try with_reducible rfl))
          try simp only [Act.put, List.setIfInBounds_toArray, List.set_cons_zero, List.set_cons_succ]
          refine take_at (i := 15) 103 (v := .int .i64 ((i : Int) + 2)) rfl rfl (by kernel_rfl) (by kernel_rfl) (by kernel_rfl) (fun _ _ _ h => h) (Or.inl ⟨by rfl, ?y50⟩) hHeld ?r50
          case y50 => (intro w' hSw; skip; go_simp; (try with_reducible rfl))
          try simp only [Act.put, List.setIfInBounds_toArray, List.set_cons_zero, List.set_cons_succ]
          refine take_at (i := 16) 104 (v := .pointer (some ⟨gr, (i + 2) * 7, none⟩)) rfl rfl (by kernel_rfl) (by kernel_rfl) (by kernel_rfl) (fun _ _ _ h => h) (Or.inl ⟨by rfl, ?y51⟩) hHeld ?r51
          case y51 => (intro w' hSw; skip; go_simp; (try with_reducible rfl))
          try simp only [Act.put, List.setIfInBounds_toArray, List.set_cons_zero, List.set_cons_succ]
          refine take_at (i := 17) 105 (v := ?v52) rfl rfl (by kernel_rfl) (by kernel_rfl) (by kernel_rfl) (fun _ _ _ h => h) (Or.inl ⟨by rfl, ?y52⟩) hHeld ?r52
          case y52 => (intro w' hSw; skip; go_simp; (try with_reducible rfl))
          try simp only [Act.put, List.setIfInBounds_toArray, List.set_cons_zero, List.set_cons_succ]
          refine take_at (i := 18) 106 (v := ?v53) rfl rfl (by kernel_rfl) (by kernel_rfl) (by kernel_rfl) (fun _ _ _ h => h) (Or.inl ⟨by rfl, ?y53⟩) hHeld ?r53
          case y53 => (intro w' hSw; have k2 := (hSw _).trans t2; have k3 := (hSw _).trans t3; have k4 := (hSw _).trans t4; have k5 := (hSw _).trans t5; go_simp; (try with_reducible rfl))
          try simp only [Act.put, List.setIfInBounds_toArray, List.set_cons_zero, List.set_cons_succ]
          refine take_at (i := 19) 107 (v := ?v54) rfl rfl (by kernel_rfl) (by kernel_rfl) (by kernel_rfl) (fun _ _ _ h => h) (Or.inl ⟨by rfl, ?y54⟩) hHeld ?r54
          case y54 => (intro w' hSw; skip; go_simp; (try with_reducible rfl))
          try simp only [Act.put, List.setIfInBounds_toArray, List.set_cons_zero, List.set_cons_succ]
          refine wpAnyH_ready (rs := [1]) (by kernel_rfl) (by simp) ?_
          refine AllReadyH.cons rfl (fun K hK => ?_) AllReadyH.nil
          go_simp
          refine hK.out _ _ ?_ (fun hHeld => ?_)
          · exact hHeld
          clear hK K
          try simp only [Act.put, List.setIfInBounds_toArray, List.set_cons_zero, List.set_cons_succ]
          refine wpAnyH_ready (rs := [20]) (by kernel_rfl) (by simp) ?_
          refine AllReadyH.cons rfl (fun K hK => ?_) AllReadyH.nil
          go_simp
          refine HPUT.out.mono ?_
          rintro e w2 ⟨v', l', rfl, hO, hp, hb⟩
          obtain ⟨v1, v2, v3, rfl⟩ := hO.slice
          have HF : Hid (GrSt w G len toks L (.slice (some ⟨gr, 0, none⟩) n vc) (i + 4) (ts ++ [(tri ⟨mk0, mp0, ⟨tk0, ta0, tl0, tc0, tn0, tq0⟩, mtb0, mxa0, mxl0, mxc0, mxb0⟩ ⟨mk1, mp1, ⟨tk1, ta1, tl1, tc1, tn1, tq1⟩, mtb1, mxa1, mxl1, mxc1, mxb1⟩ ⟨mk2, mp2, ⟨tk2, ta2, tl2, tc2, tn2, tq2⟩, mtb2, mxa2, mxl2, mxc2, mxb2⟩).td3]) l' (.slice v1 v2 v3) (w2.setCell ⟨G, 0, none⟩ (.slice v1 v2 v3))) := gr_step HSd.out HTG.out.1 HTG.out.2.1 HTG.out.2.2.1 HTG.out.2.2.2 HDR.out HTR.out hb hO hp
          have HG2 : Hid (Bx w2 G [.slice ga l.length gc]) := HSd.out.gb.below hb
          have g20 := HG2.out.c 0 _ rfl
          have g2f := HG2.out.f 0 (by simp)
          have HB2 : Hid (∀ j, w2.cell? ⟨gr, j, none⟩ = wd.cell? ⟨gr, j, none⟩) := fun j => hb.cell (p := ⟨gr, j, none⟩) (Nat.lt_trans HGR.out HGW.out)
          clear hb hO hp gd0 gdf
          refine hK.out _ _ ?_ (fun hHeld => ?_)
          · exact HB2.out
          clear hK K
          try simp only [Act.put, List.setIfInBounds_toArray, List.set_cons_zero, List.set_cons_succ]
          refine take_at (i := 21) 109 (v := ?v55) rfl rfl (by kernel_rfl) (by kernel_rfl) (by kernel_rfl) (fun _ _ _ h => h) (Or.inl ⟨by rfl, ?y55⟩) hHeld ?r55
          case y55 => (intro w' hSw; skip; go_simp; (try with_reducible rfl))
          try simp only [Act.put, List.setIfInBounds_toArray, List.set_cons_zero, List.set_cons_succ]
          refine wpAnyH_ready (rs := [22]) (by kernel_rfl) (by simp) ?_
          refine AllReadyH.cons rfl (fun K hK => ?_) AllReadyH.nil
          go_simp
          refine hK.out _ _ ?_ (fun hHeld => ?_)
          · exact (fun j => (World.cell?_setCell_other _ _ _ _ (by intro h; simp only [Addr.mk.injEq] at h; have := HGR.out; omega)).trans (HB2.out j))
          clear hK K
          try simp only [Act.put, List.setIfInBounds_toArray, List.set_cons_zero, List.set_cons_succ]
          refine wpAnyH_done (by kernel_rfl) ?_ _
          clear hHeld HPUT HTG HSd HB2 r2 r3 r4 r5 s2 s3 s4 s5 t2 t3 t4 t5
          go_wp2_with fail
          go_roundw
          case rel => exact ⟨i + 4, _, l', _, by go_num, HIK.out, HF⟩
          case measure => simp [intOf]; try omega
    · obtain rfl : i = n := by omega
      have gb0 := HS.out.gb.c 0 _ rfl
      have rb0 := HS.out.rb.c 0 _ rfl
      have rbf := HS.out.rb.f 0 (by simp)
      have HRD : Hid (Reads bs len ts) := by
        have h := HS.out.rd
        rw [List.drop_eq_nil_of_le (by rw [← HARE.out.len, ← HN.out]; exact Nat.le_refl _), readR_nil] at h
        refine ⟨toks, HTK.out, ?_⟩
        rw [← h]
        show Except.ok (ts ++ []) = _
        rw [List.append_nil]
      have HOT : Hid (OnceT ts (l.map G1.td3)) := HS.out.once
      by_cases h60 : 60 < l.length
      · have h60z : (60 : Int) < (l.length : Int) := by omega
        have HMANY : Hid (Refuses bs len 1 0) := .many ts _ HLL.out HRD.out HOT.out (by rw [List.length_map]; exact h60)
        clear h60
        go_wp2_with fail
        exact bodyPost_ret (v := .tuple #[.agg #[.slice none 0 0], .int .i64 1, .int .i64 0]) (by simp [results, Tryz.results20, go_sem, *]) rfl ⟨bl_set HS.out.bel (Nat.le_refl _) _, .inl ⟨1, 0, HMANY.out, rfl⟩⟩
      · have h60z : ¬ (60 : Int) < (l.length : Int) := by omega
        have HCALL : Hid (Calls Tryz.prog 53 #[.agg #[.slice ga l.length gc]] wr (OwnAns l wr)) := l2own_any ga gc l wr (G + 1) HS.out.own (fun y hy => ⟨(HS.out.good y hy).1, (HS.out.good y hy).2.1.lies⟩) (by omega)
        have HL60 : Hid (l.length ≤ 60) := by show l.length ≤ 60; omega
        clear h60
        go_wp2_with fail
        refine HCALL.out.mono ?_
        rintro e w2 ⟨v, L2, rfl, hO, htd, hlie, _, hb⟩
        obtain ⟨v1, v2, v3, rfl⟩ := hO.slice
        have HR2 : Hid (Bx w2 w.heap.size [.slice none 0 0]) := HS.out.rb.below hb
        have rb2 := HR2.out.c 0 _ rfl
        have rf2 := HR2.out.f 0 (by simp)
        have HW2 : Hid (Below w.heap.size w w2) := bl_trans HS.out.bel hb
        have HO2 : Hid (OwnG w2 wr.heap.size (.slice v1 v2 v3) L2) := hO
        have HTD : Hid (L2.map G1.td3 = l.map G1.td3) := htd
        have HLI : Hid (∀ y ∈ L2, y.lies0 w2 ∧ y.good) := hlie
        clear hO htd hlie hb gb0 rb0 rbf HCALL
        go_wp2_with fail
        refine bodyPost_ret (v := .tuple #[.agg #[.slice v1 v2 v3], .int .i64 0, .int .i64 0]) (by simp [results, Tryz.results20, go_sem, *]) rfl ⟨bl_set HW2.out (Nat.le_refl _) _, .inr ⟨_, L2, ts, HLL.out, HRD.out, ?_, ?_, rfl, ?_, ?_⟩⟩
        · rw [HTD.out]
          exact HOT.out
        · have h := congrArg List.length HTD.out
          rw [List.length_map, List.length_map] at h
          have := HL60.out
          omega
        · have hP : Past w.heap.size w2 (w2.setCell ⟨w.heap.size, 0, none⟩ (.slice v1 v2 v3)) := (Past.refl _ w2).set 0 _
          have h := HO2.out.past hP HS.out.rb.lt
          exact ⟨h.1.mono (Nat.le_of_lt HS.out.rb.lt), fun c hc => ⟨Nat.le_trans (Nat.le_of_lt HS.out.rb.lt) (h.2 c hc).1, (h.2 c hc).2⟩⟩
        · intro y hy
          exact ⟨(HLI.out y hy).1.set rb2 (fun n e => by cases e) 0 _, (HLI.out y hy).2⟩
end Go.Proofs.YtoclingolfdfeaaGreatDoor
