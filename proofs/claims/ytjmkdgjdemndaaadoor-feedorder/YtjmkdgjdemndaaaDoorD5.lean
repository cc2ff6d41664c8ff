/- What is got: rounds with memory of their own; a log, a link, a feed and a row of rounds within a law. -/
import Derived.Test.YtjmkdgjdemndaaaDoorD3
import Derived.Test.YtjmkdgjdemndaaaDoorB8
namespace Go.Proofs.YtjmkdgjdemndaaaDoor.X
open Go Go.RowKit
set_option maxHeartbeats 2000000 in
theorem rndget_w (s : ByteArray) (hm : s.size ≤ 140737488355328) (hge : geE s = 0) (w : World) (hd : Wd w) :
    Calls Tryd.prog 26 #[.string s] w fun x w' => ∃ g, x = .returned (.tuple #[.agg #[.int .i64 (geO s), .int .i64 (geN s), .slice (some ⟨g, 0, none⟩) (geL s).length (geL s).length], .int .i64 (geE s)]) ∧ Rw w' g (geL s) ∧ w.heap.size ≤ g ∧ Below w.heap.size w w' := by
  have hk8 := (k3_le s).2
  have r1 : geO s = numV s 0 0 64 := if_neg (by simp [hge])
  have r2 : geN s = numV s (a1 s) (e1 s) 1099511627776 := if_neg (by simp [hge])
  have r3 : geL s = (getUs s).1 := if_neg (by simp [hge])
  have r4 : (getUs s).1.length = k3 s := updsR_len _ _ _ _
  rw [r1, r2, r3, r4, hge]
  have HE : Hid (∀ b w, Rd w b (rst s (getUs s).2.1 (getUs s).2.2) (getUs s).2.2 → Calls Tryd.prog 52 #[.pointer (some ⟨b, 0, none⟩)] w fun x w' => x = .returned (.int .i64 0) ∧ Rd w' b (rst s (getUs s).2.1 (geE s)) (geE s) ∧ w.grownBy w' (some b)) := by
    intro b w h
    have := end_any s _ _ b w h
    rw [show endE s (getUs s).2.1 (getUs s).2.2 = geE s from rfl] at this
    have e := this
    refine this.mono ?_
    rintro x w' ⟨rfl, h1, h2⟩
    exact ⟨by rw [hge], h1, h2⟩
  clear r1 r2 r3 r4
  have HN1 : Hid (∀ wr b, GS w wr b 0 0 none 0 s 0 0 → Calls Tryd.prog 50 #[.pointer (some ⟨b, 0, none⟩), .int .i64 64] wr fun x w' => x = .returned (.int .i64 (numV s 0 0 64)) ∧ GS w w' b 0 0 none 0 s (a1 s) (e1 s)) := fun wr b h => h.num 64 (Nat.zero_le _) hm (by decide) (by decide)
  have HN2 : Hid (∀ wr b o, GS w wr b o 0 none 0 s (a1 s) (e1 s) → Calls Tryd.prog 50 #[.pointer (some ⟨b, 0, none⟩), .int .i64 1099511627776] wr fun x w' => x = .returned (.int .i64 (numV s (a1 s) (e1 s) 1099511627776)) ∧ GS w w' b o 0 none 0 s (a2 s) (e2 s)) := fun wr b o h => h.num 1099511627776 (a1_le s) hm (by decide) (by decide)
  have HN3 : Hid (∀ wr b o n, GS w wr b o n none 0 s (a2 s) (e2 s) → Calls Tryd.prog 50 #[.pointer (some ⟨b, 0, none⟩), .int .i64 8] wr fun x w' => x = .returned (.int .i64 (k3 s : Int)) ∧ GS w w' b o n none 0 s (a3 s) (e3 s)) := by
    intro wr b o n h
    rw [← (k3_le s).1]
    exact h.num 8 (a2_le s) hm (by decide) (by decide)
  have HU : Hid (∀ wr b o n, GS w wr b o n none 0 s (a3 s) (e3 s) → Calls Tryd.prog 51 #[.pointer (some ⟨b, 0, none⟩), .int .i64 (k3 s : Int)] wr fun x w' => ∃ g, x = .returned (.slice (some ⟨g, 0, none⟩) (k3 s) (k3 s)) ∧ b < g ∧ GS w w' b o n none 0 s (getUs s).2.1 (getUs s).2.2 ∧ Rw w' g (getUs s).1) := fun wr b o n h => h.ups (k3 s) hk8 (a3_le s) hm
  have HD := Lib.hid hd
  generalize numV s 0 0 64 = V1 at *
  generalize numV s (a1 s) (e1 s) 1099511627776 = V2 at *
  generalize geE s = gE at *
  generalize k3 s = k at *
  generalize getUs s = gu at *
  generalize a1 s = A1 at *
  generalize a2 s = A2 at *
  generalize a3 s = A3 at *
  generalize e1 s = E1 at *
  generalize e2 s = E2 at *
  generalize e3 s = E3 at *
  clear hge hd
  go_enter Tryd.func26, Tryd.ntmps26
  go_wp2_with fail
  refine (read_any s hm _).mono ?_
  rintro x w1 ⟨b, hb, rfl, hr, hbel⟩
  have HG := Lib.hid (GS.start w HD.out hb hr hbel)
  clear hb hr hbel
  go_wp2_with fail
  refine (HN1.out _ _ HG.out).mono ?_
  rintro x w2 ⟨rfl, hg⟩
  have c0 := hg.got.c0
  have f0 := hg.got.f0 0
  have HG2 := Lib.hid (hg.set0 V1)
  clear hg HG HN1
  go_wp2_with fail
  refine (HN2.out _ _ _ HG2.out).mono ?_
  rintro x w3 ⟨rfl, hg⟩
  have c1 := hg.got.c1
  have f1 := hg.got.f0 1
  have HG3 := Lib.hid (hg.set1 V2)
  clear hg HG2 HN2 c0 f0
  go_wp2_with fail
  refine (HN3.out _ _ _ _ HG3.out).mono ?_
  rintro x w4 ⟨rfl, hg⟩
  have HG4 := Lib.hid hg
  clear hg HG3 HN3 c1 f1
  go_wp2_with fail
  refine (HU.out _ _ _ _ HG4.out).mono ?_
  rintro x w5 ⟨g, rfl, hgb, hg, hrw⟩
  have c2 := hg.got.c2
  have f2 := hg.got.f0 2
  have hlo := hg.lo
  have HG5 := Lib.hid (hg.set2 (some ⟨g, 0, none⟩) k)
  have HW5 := Lib.hid (hrw.setnew (show g ≠ w.heap.size + 1 by omega) 2 (.slice (some ⟨g, 0, none⟩) k k))
  clear hg hrw HG4 HU
  go_wp2_with fail
  refine (HE.out _ _ HG5.out.rd).mono ?_
  rintro x w6 ⟨rfl, hr, hgr⟩
  have hg6 := HG5.out.read (A' := gu.2.1) hr hgr
  have hw6 := HW5.out.kept hgr (by simp; omega)
  have HB6 := Lib.hid hg6.bel
  have HW6 := Lib.hid hw6
  have d0 := hg6.got.c0
  have d1 := hg6.got.c1
  have d2 := hg6.got.c2
  have o0 := hg6.res.c0
  have o1 := hg6.res.c1
  have o2 := hg6.res.c2
  have g0 := hg6.res.f0 0
  have g1 := hg6.res.f0 1
  have g2 := hg6.res.f0 2
  clear hg6 hw6 hr hgr HG5 HW5 HE c2 f2
  go_wp2
  refine bodyPost_ret (v := .tuple #[.agg #[.int .i64 V1, .int .i64 V2, .slice (some ⟨g, 0, none⟩) k k], .int .i64 0]) (by simp [results, Tryd.results26, go_sem, o0, o1, o2]) rfl ⟨g, rfl, HW6.out.set3 (show g ≠ w.heap.size by omega) (.int .i64 V1) (.int .i64 V2) (.slice (some ⟨g, 0, none⟩) k k), by omega, below_set3 HB6.out (Nat.le_refl _) _ _ _⟩
end Go.Proofs.YtjmkdgjdemndaaaDoor.X
namespace Go.Proofs.YtjmkdgjdemndaaaDoor
open Go Go.RowKit
set_option maxRecDepth 20000
/-- A common round's bytes are got as the round that it is. -/
theorem got_any (q : Cr) (hm : mayR q.1 q.2.1 q.2.2 = 0) (w : World) (hd : X.Wd w) :
    Calls Tryd.prog 26 #[.string (pxC q)] w fun x w' => ∃ r, x = .returned (.tuple #[rv r, .int .i64 0]) ∧ Own w.heap.size w' r ∧ kR r = q ∧ Below w.heap.size w w' := by
  obtain ⟨o, n, us⟩ := q
  simp only at hm
  have hsz : (pxC (o, n, us)).size ≤ 140737488355328 := Nat.le_trans (pxC_size (r := (o, n, us)) hm) (by decide)
  obtain ⟨h1, h2, h3, h4⟩ := X.back_r o n us hm
  refine (X.rndget_w (pxC (o, n, us)) hsz h1 w hd).mono ?_
  rintro x w1 ⟨g, rfl, hr, hg, hb⟩
  have e1 : X.geE (pxC (o, n, us)) = 0 := h1
  have e2 : X.geO (pxC (o, n, us)) = o := h2
  have e3 : X.geN (pxC (o, n, us)) = n := h3
  have e4 : X.geL (pxC (o, n, us)) = us := h4
  rw [e4] at hr
  rw [e1, e2, e3, e4]
  exact ⟨⟨o, n, some ⟨g, 0, none⟩, us.length, us.length, us⟩, rfl, ⟨g, rfl, hr, hg, rfl, rfl⟩, rfl, hb⟩
theorem slR_front (a : Option Addr) (len cap n : Nat) (h : n ≤ cap) (w : World) : (Instr.sliceAt 57 (.slice a len cap) none (some (.int .i64 n)) none).run Tryd.prog w = .ok (.slice a n cap) w := by
  rw [run_sliceAt_slice _ _ _ _ _ _ Tryd.underlying57]
  cases a <;> simp [Instr.slice, Instr.sliceBounds, Instr.sliceBound, asIntOf, run_underlying Tryd.underlying57, go_sem] <;> (intro hx; omega)
theorem IsRs.front {w : World} {a : Option Addr} {len : Nat} {rs : List Rn} (h : IsRs w a len rs) {n : Nat} (hn : n ≤ len) : IsRs w a n (rs.take n) := by
  have hs := h.size
  refine ⟨by rw [List.length_take]; omega, fun h0 => ?_, fun r hr => h.each r (List.mem_of_mem_take hr)⟩
  obtain ⟨b, off, rfl, hf⟩ := h.lies (by omega)
  refine ⟨b, off, rfl, three fun i hi => ?_⟩
  rw [List.length_take] at hi
  have h1 := hf.o i (by omega)
  have h2 := hf.n i (by omega)
  have h3 := hf.u i (by omega)
  have e1 : (rs.take n).getD i rn0 = rs.getD i rn0 := by simp only [List.getD_eq_getElem?_getD]; rw [List.getElem?_take, if_pos (by omega)]
  rw [e1]
  exact ⟨h1, h2, h3⟩
/-- How a link stands that was offered the first p rounds of L, of which p0 have been read off. -/
structure Fq (x : Int) (L : List Cr) (p0 p : Nat) (E : K.En) (k : Nat) (ds : List ByteArray) : Prop where
  eq : E = ⟨1, x, 1, true, k, ds, 0, []⟩
  k0 : k ≤ p0
  p0p : p0 ≤ p
  pl : p ≤ L.length
  kp : k + ds.length = p
  is : ds = ((L.take p).drop k).map pxC
def lastj (p0 p k j : Nat) : Nat := max p0 (min (k + j) p)
section
variable {x : Int} {L : List Cr} {p0 p k : Nat} {E : K.En} {ds : List ByteArray}
theorem Fq.more (h : Fq x L p p E k ds) {L' : List Cr} (hl : L.length ≤ L'.length) (ht : L'.take L.length = L) : Fq x L' p p E k ds := by
  have h1 := h.pl
  refine ⟨h.eq, h.k0, h.p0p, by omega, h.kp, ?_⟩
  have e : L'.take p = L.take p := by
    conv => rhs; rw [← ht]
    rw [List.take_take, Nat.min_eq_left h1]
  rw [e]
  exact h.is
theorem com_take (c : Int) (L : List Cr) (r : Cr) : L.length ≤ (comL c L r).length ∧ (comL c L r).take L.length = L := by
  unfold comL
  split
  · exact ⟨by simp, List.take_left⟩
  · exact ⟨Nat.le_refl _, List.take_length⟩
theorem Fq.pump (h : Fq x L p p E k ds) : ∃ ds', Fq x L p (p + pumpN E (L.drop p)) (pumpE E (L.drop p)) k ds' := by
  have hle := pumpN_le (L.drop p) E
  have his := pump_is (L.drop p) E
  have h1 := h.pl
  have h2 := h.kp
  have h3 := h.k0
  generalize pumpN E (L.drop p) = n at *
  rw [List.length_drop] at hle
  obtain ⟨rfl, _, _, _, _, hds⟩ := h
  refine ⟨ds ++ ((L.drop p).take n).map pxC, by rw [his], h3, Nat.le_add_right _ _, by omega, ?_, ?_⟩
  · rw [List.length_append, List.length_map, List.length_take, List.length_drop]
    omega
  · have e1 : L.take (p + n) = L.take p ++ (L.drop p).take n := List.take_add
    have hlen : (L.take p).length = p := by rw [List.length_take]; omega
    rw [e1, List.drop_append_of_le_length (by omega), List.map_append, ← hds]
theorem Fq.frames (h : Fq x L p0 p E k ds) : E.frames = if ds.length = 0 then [(1, 0, 0, ⟨#[]⟩)] else K.frs 1 0 k ds := by
  obtain ⟨rfl, _⟩ := h
  unfold K.En.frames
  rw [if_neg (show ¬ (1 : Int) = 0 by decide)]
  rfl
theorem Fq.n (h : Fq x L p0 p E k ds) : E.frames.length = if ds.length = 0 then 1 else ds.length := by
  rw [h.frames]
  split
  · rfl
  · exact K.frs_len _ _ _ _
theorem Fq.first (h : Fq x L p0 p E k ds) : lastj p0 p k 0 = p0 := by
  have := h.k0
  have := h.p0p
  unfold lastj
  omega
theorem Fq.end (h : Fq x L p0 p E k ds) : lastj p0 p k E.frames.length = p := by
  have h1 := h.k0
  have h2 := h.p0p
  have h3 := h.kp
  rw [h.n]
  unfold lastj
  split <;> omega
/-- The frame j: it is read off already, or it is the next one. -/
theorem Fq.at (h : Fq x L p0 p E k ds) {j : Nat} (hj : j < E.frames.length) : ∃ s d, E.frames.getD j K.fr0 = (1, s, 0, d) ∧
    ((s ≤ ((lastj p0 p k j : Nat) : Int) ∧ lastj p0 p k (j + 1) = lastj p0 p k j) ∨
     (s = ((lastj p0 p k j + 1 : Nat) : Int) ∧ lastj p0 p k (j + 1) = lastj p0 p k j + 1 ∧ lastj p0 p k j < L.length ∧ d = pxC (L.getD (lastj p0 p k j) kr0))) := by
  have h1 := h.k0
  have h2 := h.p0p
  have h3 := h.kp
  have h4 := h.pl
  rw [h.n] at hj
  rw [h.frames]
  split
  · rename_i h0
    rw [if_pos h0] at hj
    obtain rfl : j = 0 := by omega
    refine ⟨0, ⟨#[]⟩, rfl, .inl ⟨by unfold lastj; omega, by unfold lastj; omega⟩⟩
  · rename_i h0
    rw [if_neg h0] at hj
    refine ⟨_, _, K.frs_get 1 0 k ds j hj, ?_⟩
    by_cases hs : k + j + 1 ≤ p0
    · exact .inl ⟨by unfold lastj; omega, by unfold lastj; omega⟩
    · have e : lastj p0 p k j = k + j := by unfold lastj; omega
      refine .inr ⟨by rw [e], by rw [e]; unfold lastj; omega, by rw [e]; omega, ?_⟩
      rw [e, h.is]
      have hlt : k + j < L.length := by omega
      simp only [List.getD_eq_getElem?_getD, List.getElem?_map, List.getElem?_drop, List.getElem?_take]
      rw [if_pos (by omega), List.getElem?_eq_getElem hlt]
      rfl
theorem Fq.hear (h : Fq x L p0 p E k ds) (a : Int) (d : ByteArray) : ∃ k' ds', Fq x L p p (E.hear (1, 0, a, d)) k' ds' ∧ E.anew (1, 0, a, d) = false := by
  obtain ⟨rfl, h1, h2, h3, h4, h5⟩ := h
  have hm := K.dackM_le k ds.length a
  refine ⟨k + K.ackM k ds.length a, ds.drop (K.ackM k ds.length a), ⟨?_, by omega, Nat.le_refl _, h3, ?_, ?_⟩, rfl⟩
  · unfold K.En.hear
    rw [if_neg (by simp), if_neg (by simp), K.take_zero]
  · rw [List.length_drop]; omega
  · rw [h5, ← List.map_drop, List.drop_drop]
theorem Fq.again (h : Fq x L p0 p E k ds) : p ≤ L.length := h.pl
end
/-- A row of rounds within a law, each with memory of its own, none of the log's. -/
structure Gt (B : Nat) (w : World) (v : Value) (got : List Rn) (F : Nat → Prop) : Prop where
  row : RowR B w v got
  own : ∀ r ∈ got, Own B w r
  dis : ∀ k, F k → v.ownBlock ≠ some k ∧ ∀ r ∈ got, r.a ≠ some ⟨k, 0, none⟩
theorem Own.lt {B : Nat} {w : World} {r : Rn} (h : Own B w r) {g : Nat} (e : r.a = some ⟨g, 0, none⟩) : g < w.heap.size ∧ ∃ cur, w.heap[g]? = some (.cells cur 114 (0, 0)) := by
  obtain ⟨g', e', hr, _⟩ := h
  rw [e] at e'
  simp only [Option.some.injEq, Addr.mk.injEq, and_true] at e'
  subst e'
  exact ⟨hr.lt, hr.typ⟩
theorem Own.at' {B : Nat} {w w' : World} {r : Rn} (h : Own B w r) (hk : ∀ g, r.a = some ⟨g, 0, none⟩ → w'.heap[g]? = w.heap[g]?) : Own B w' r := by
  obtain ⟨g, e, hr, hb, e1, e2⟩ := h
  exact ⟨g, e, (hk g e).trans hr, hb, e1, e2⟩
theorem Own.lower {B B' : Nat} {w : World} {r : Rn} (h : Own B w r) (hB : B' ≤ B) : Own B' w r := by
  obtain ⟨g, e, hr, hb, e1, e2⟩ := h
  exact ⟨g, e, hr, by omega, e1, e2⟩
/-- A log, a link, a feed, and what was got, within a law. -/
structure Fo (w0 w : World) (lb : Nat) (F : Nat → Prop) (c : Int) (L : List Cr) (b bs br : Nat) (E : K.En) (fb p : Nat) (v : Value) (got : List Rn) : Prop where
  j : Fj w0 w lb F c L b bs br E fb p
  g : Gt w0.heap.size w v got F
section
variable {w0 w w' w1 : World} {lb : Nat} {F F' : Nat → Prop} {c : Int} {L : List Cr} {b bs br bs' br' : Nat} {E E' : K.En} {fb p p' : Nat} {v : Value} {got : List Rn} {r : Cr}
theorem Gt.same {B : Nat} (h : Gt B w v got F) (h1 : ∀ j, v.ownBlock = some j → w'.heap[j]? = w.heap[j]?) (h2 : ∀ r ∈ got, ∀ g, r.a = some ⟨g, 0, none⟩ → w'.heap[g]? = w.heap[g]?) : Gt B w' v got F :=
  ⟨h.row.same h1, fun r hr => (h.own r hr).at' (h2 r hr), h.dis⟩
theorem Gt.next {B : Nat} (h : Gt B w v got F) (hb : Below w.heap.size w w') : Gt B w' v got F :=
  h.same (fun j hj => hb.block j (World.ownsRow.lt h.row j hj).2) fun r hr _ e => hb.block _ ((h.own r hr).lt e).1
theorem Fo.next (h : Fo w0 w lb F c L b bs br E fb p v got) (hb : Below w.heap.size w w') : Fo w0 w' lb F c L b bs br E fb p v got := ⟨h.j.next hb, h.g.next hb⟩
/-- A call on link or feed. -/
theorem Fo.on (h : Fo w0 w lb F c L b bs br E fb p v got) (hj : Fj w0 w' lb F c L b bs' br' E' fb p') (ho : OthF w w') : Fo w0 w' lb F c L b bs' br' E' fb p' v got :=
  ⟨hj, h.g.same (fun j hj => by
    obtain ⟨_, cur, hc⟩ := h.g.row.typ j hj
    exact ho j _ _ _ hc (by decide) (by decide) (by decide) (by decide) (by decide)) fun r hr g e => by
    obtain ⟨_, cur, hc⟩ := (h.g.own r hr).lt e
    exact ho g _ _ _ hc (by decide) (by decide) (by decide) (by decide) (by decide)⟩
/-- A round comes to the log. -/
theorem Fo.add (h : Fo w0 w lb F c L b bs br E fb p v got) (ha : ComW 69 Pc w0.heap.size w w' lb F F' c L r) : Fo w0 w' lb F' c (comL c L r) b bs br E fb p v got := by
  have h1 := h.g.same (w' := w') (fun j hj => ha.lv.block j (World.ownsRow.lt h.g.row j hj).2 fun hf => (h.g.dis j hf).1 hj) fun r hr g e => ha.lv.block g ((h.g.own r hr).lt e).1 fun hf => (h.g.dis g hf).2 r hr e
  refine ⟨h.j.add ha, h1.row, h1.own, fun k hk => ?_⟩
  rcases ha.new k hk with hf | hf
  · exact h.g.dis k hf
  · refine ⟨fun e => ?_, fun r hr e => ?_⟩
    · have := (World.ownsRow.lt h.g.row k e).2
      omega
    · have := ((h.g.own r hr).lt e).1
      omega
/-- A round is put behind what was got. -/
theorem Fo.app {v' : Value} {x : Rn} {N : Nat} (h : Fo w0 w lb F c L b bs br E fb p v got) (hx : Own N w x) (hN : ∀ k, F k → k < N) (hB : w0.heap.size ≤ N) (hr : RowR w0.heap.size w' v' (got ++ [x])) (hg : w.grownBy w' v.ownBlock) (hv : v'.ownBlock = v.ownBlock ∨ v'.ownBlock = some w.heap.size) : Fo w0 w' lb F c L b bs br E fb p v' (got ++ [x]) := by
  have hne : ∀ (k : Nat) (cur : Array Value) (t : TypeId) (fr : Nat × Nat), w.heap[k]? = some (.cells cur t fr) → t ≠ 43 → w'.heap[k]? = w.heap[k]? := fun k cur t fr hc ht => hg.block k (Array.getElem?_eq_some_iff.1 hc).1 fun e => by
    obtain ⟨_, cur', hc'⟩ := h.g.row.typ k e.symm
    exact two_types hc hc' ht rfl
  have hbel : Below w0.heap.size w0 w' := h.j.bel.grown hg h.j.bel.size fun j hj => (World.ownsRow.lt h.g.row j hj).1
  refine ⟨h.j.keep hbel (fun k hk => hg.block k (h.j.lg.foot k hk).2 fun e => (h.g.dis k hk).1 e.symm) fun X cur t fr hX ht => hne X cur t fr hX ?_, hr, fun y hy => ?_, fun k hk => ⟨fun e => ?_, fun y hy e => ?_⟩⟩
  · rcases ht with (rfl | rfl | rfl | rfl) | rfl <;> decide
  · rcases List.mem_append.1 hy with hy | hy
    · refine (h.g.own y hy).at' fun g e => ?_
      obtain ⟨_, cur, hc⟩ := (h.g.own y hy).lt e
      exact hne g cur _ _ hc (by decide)
    · rw [List.mem_singleton.1 hy]
      refine (hx.lower hB).at' fun g e => ?_
      obtain ⟨_, cur, hc⟩ := hx.lt e
      exact hne g cur _ _ hc (by decide)
  · rcases hv with hv | hv
    · exact (h.g.dis k hk).1 (hv ▸ e)
    · rw [hv] at e
      cases e
      have := (h.j.lg.foot _ hk).2
      omega
  · rcases List.mem_append.1 hy with hy | hy
    · exact (h.g.dis k hk).2 y hy e
    · rw [List.mem_singleton.1 hy] at e
      obtain ⟨g, e', _, hb, _⟩ := hx
      rw [e] at e'
      simp only [Option.some.injEq, Addr.mk.injEq, and_true] at e'
      subst e'
      have := hN _ hk
      omega
end
section
variable {x : Int} {w0 w w' : World} {lb : Nat} {F : Nat → Prop} {c : Int} {L : List Cr} {b bs br : Nat} {E : K.En} {fb p p0 k : Nat} {v : Value} {got : List Rn} {ds : List ByteArray}
theorem fo_start (h : Fj w0 w lb F c L b bs br E fb p) : Fo w0 w lb F c L b bs br E fb p (.slice none 0 0) [] :=
  ⟨h, rowR_nil _ _, fun r hr => absurd hr (by simp), fun k _ => ⟨by simp [Value.ownBlock], fun r hr => absurd hr (by simp)⟩⟩
theorem fq_start (x : Int) : Fq x [] 0 0 ⟨1, x, 1, true, 0, [], 0, []⟩ 0 [] := ⟨rfl, Nat.le_refl _, Nat.le_refl _, Nat.le_refl _, rfl, rfl⟩
theorem fo_add (hn : L.length ≤ 1000) (r : Rn) (hsm : Sm r.us) (w : World) (hu : Ru w r) (h : Fo w0 w lb F c L b bs br E fb p v got) (hq : Fq x L p p E k ds) (hg : got.map kR = L.take p) :
    Calls Tryd.prog 19 #[.pointer (some ⟨lb, 0, none⟩), rv r] w fun e w' => (∃ n, e = .returned (.int .i64 n)) ∧ ∃ F', Fo w0 w' lb F' c (comL c L (kR r)) b bs br E fb p v got ∧ Fq x (comL c L (kR r)) p p E k ds ∧ got.map kR = (comL c L (kR r)).take p := by
  refine (cadd_any hn r hsm w hu h.j.lg).mono ?_
  rintro e w1 ⟨rfl, F', hc⟩
  obtain ⟨h1, h2⟩ := com_take c L (kR r)
  refine ⟨⟨_, rfl⟩, F', h.add hc, hq.more h1 h2, ?_⟩
  rw [hg]
  conv => lhs; rw [← h2]
  rw [List.take_take, Nat.min_eq_left hq.pl]
theorem fo_pump (hL : L.length ≤ 1000) (hd : X.Wd w0) (w : World) (h : Fo w0 w lb F c L b bs br E fb p v got) (hq : Fq x L p p E k ds) :
    Calls Tryd.prog 14 #[.pointer (some ⟨fb, 0, none⟩), .pointer (some ⟨lb, 0, none⟩), .pointer (some ⟨b, 0, none⟩)] w fun e w' => (∃ n, e = .returned (.int .i64 n)) ∧ ∃ E' p' ds', Fo w0 w' lb F c L b bs br E' fb p' v got ∧ Fq x L p p' E' k ds' := by
  obtain ⟨ds', hq'⟩ := hq.pump
  refine (pump_any rfl rfl hq.pl hL hd w h.j).mono ?_
  rintro e w1 ⟨rfl, hj, ho⟩
  exact ⟨⟨_, rfl⟩, _, _, ds', h.on hj ho, hq'⟩
theorem fo_hear (a : Int) (w : World) (h : Fo w0 w lb F c L b bs br E fb p v got) (hq : Fq x L p0 p E k ds) :
    Calls Tryd.prog 16 #[.pointer (some ⟨b, 0, none⟩), .agg #[.int .i64 1, .int .i64 0, .int .i64 a, .string ⟨#[]⟩]] w fun e w' => e = .returned (.bool false) ∧ ∃ bs' br' E' k' ds', Fo w0 w' lb F c L b bs' br' E' fb p v got ∧ Fq x L p p E' k' ds' := by
  obtain ⟨k', ds', hq', ha⟩ := hq.hear a ⟨#[]⟩
  have hz : E.q + E.ps.length ≤ 1000000 := by rw [hq.eq]; exact Nat.zero_le _
  refine (fj_hear (f := (1, 0, a, ⟨#[]⟩)) rfl ha (show (0 : Nat) ≤ 1000 by decide) hz w h.j).mono ?_
  rintro e w1 ⟨rfl, ⟨bs', br', hj⟩, ho⟩
  exact ⟨rfl, bs', br', _, k', ds', h.on hj ho, hq'⟩
theorem Fo.rowF {B : Nat} {vF : Value} {G : List K.Fra} (h : Fo w0 w lb F c L b bs br E fb p v got) (hr : K.RowF B w vF G) (hg : w.grownBy w' v.ownBlock) : K.RowF B w' vF G := hr.same fun j hj => by
  obtain ⟨cur, hc⟩ := hr.typ j hj
  refine hg.block j (Array.getElem?_eq_some_iff.1 hc).1 fun e => ?_
  obtain ⟨_, cur', hc'⟩ := h.g.row.typ j e.symm
  exact two_types hc hc' (by decide) rfl
theorem got_len (hg : got.map kR = L.take p) (hp : p ≤ L.length) : got.length = p := by
  have := congrArg List.length hg
  rw [List.length_map, List.length_take] at this
  omega
end
/-- What the walk is told of a row of small numbers. -/
structure IsBs (w : World) (a : Option Addr) (len : Nat) (l : List Int) : Prop where
  size : l.length = len
  lies : 0 < len → ∃ b off, a = some ⟨b, off, none⟩ ∧ b < w.heap.size ∧ ∀ i, i < len → w.cell? ⟨b, off + i, none⟩ = some (.int .u8 (l.getD i 0)) ∧ 0 ≤ l.getD i 0 ∧ l.getD i 0 ≤ 255
end Go.Proofs.YtjmkdgjdemndaaaDoor
