import Derived.Test.YtbbgibekplfacaaDoorNE
import Derived.Test.YtbbgibekplfacaaDoorNF
/- What the six laws of stage 17 share. -/
namespace Go.Proofs.YtbbgibekplfacaaDoor
open Go Go.RowKit
set_option maxRecDepth 20000
/-- In a region that draws, what is said of each world may become more. -/
theorem wpAnyH_more {P : Program} {ops : Array Oper} {Q : Exit → Act → World → Prop} {md : Region.Mode} {S S' : World → Prop} (hS : ∀ w, S' w → S w) : ∀ (fuel : Nat) (listed : Array Bool) (a : Act) (w : World), wpAnyH P md ops Q S' fuel listed a w → wpAnyH P md ops Q S fuel listed a w
  | 0, _, _, _, h => h
  | fuel + 1, _, _, _, h => ⟨h.1, fun i hi => wpOp_mono (fun a' w' h' => ⟨hS _ h'.1, wpAnyH_more hS fuel _ a' w' h'.2⟩) (h.2 i hi)⟩
/-- A law's state: both clients, and the kit's block. -/
structure Kl (W w : World) (g cb db : Nat) (P D : Nat → Prop) (n : Nat) (s : Cs) : Prop where
  kq : Kq W w cb db P D n s
  kb : Kb w g cb db
  kf : ¬ Kf W P D g
/-- The document's lists, as its client's block tells them. -/
structure Dv (w : World) (db : Nat) (ak : Option Addr) (ck : Nat) (rk : List Rn) (ap : Option Addr) (cp : Nat) (rp : List Rn) (ao : Option Addr) (co : Nat) (s : Cs) : Prop where
  c4 : w.cell? ⟨db, 4, none⟩ = some (.slice ak s.kn.length ck)
  c5 : w.cell? ⟨db, 5, none⟩ = some (.slice ap (s.uss.length - s.k) cp)
  c6 : w.cell? ⟨db, 6, none⟩ = some (.slice ao s.op.length co)
  kr : IsRs w ak s.kn.length rk
  km : rk.map kR = s.kn
  pr : IsRs w ap (s.uss.length - s.k) rp
  po : Of s.o s.k (s.uss.drop s.k) rp
  ou : IsUs w ao s.op.length s.op
  lt : db < w.heap.size
section
variable {W w w' : World} {g cb db : Nat} {P D P' D' : Nat → Prop} {n m : Nat} {s s' : Cs} {ak ap ao : Option Addr} {ck cp co : Nat} {rk rp : List Rn}
theorem Kl.start (h : Kq W w cb db P D n s) : Kl W (w.alloc (.cells #[.pointer (some ⟨cb, 0, none⟩), .pointer (some ⟨db, 0, none⟩)] 27)) w.heap.size cb db P D n s :=
  ⟨h.next (Joins.below_alloc1 _ _), heap_alloc_new _ _, fun e => by
    rcases e.2 with e | e
    · have := (h.pk.foot _ e).2; omega
    · have := h.dk.foot _ e; omega⟩
theorem Kl.next (h : Kl W w g cb db P D n s) (hb : Below w.heap.size w w') : Kl W w' g cb db P D n s := ⟨h.kq.next hb, h.kb.next hb, h.kf⟩
theorem Kl.step (h : Kl W w g cb db P D n s) (hs : KqW W w w' cb db P D P' D' m s') : Kl W w' g cb db P' D' m s' :=
  ⟨hs.kq, h.kb.same (hs.held h.kb.lt h.kf).1, (hs.held h.kb.lt h.kf).2⟩
theorem Kl.bel (h : Kl W w g cb db P D n s) : Below W.heap.size W w := h.kq.bel
theorem Kl.view (h : Kl W w g cb db P D n s) : ∃ ak ck rk ap cp rp ao co, Dv w db ak ck rk ap cp rp ao co s := by
  obtain ⟨jb, FJ, M, ak, lk, ck, rk, ap, lp, cp, rp, ao, lo, co, hq, rfl⟩ := h.kq.dk
  obtain rfl : s.kn.length = lk := by rw [← hq.km, List.length_map]; exact hq.kr.is.size
  obtain rfl : s.uss.length - s.k = lp := by rw [← hq.pr.is.size, hq.po.len, List.length_drop]
  obtain rfl : s.op.length = lo := hq.ou.is.size
  exact ⟨ak, ck, rk, ap, cp, rp, ao, co, cell_at hq.blk 4 _ rfl, cell_at hq.blk 5 _ rfl, cell_at hq.blk 6 _ rfl, hq.kr.is, hq.km, hq.pr.is, hq.po, hq.ou.is, hq.lt⟩
theorem Dv.next (h : Dv w db ak ck rk ap cp rp ao co s) (hb : Below w.heap.size w w') : Dv w' db ak ck rk ap cp rp ao co s :=
  ⟨(hb.cell h.lt).trans h.c4, (hb.cell h.lt).trans h.c5, (hb.cell h.lt).trans h.c6, isRs_below h.kr hb, h.km, isRs_below h.pr hb, h.po, isUs_below h.ou hb, Nat.lt_of_lt_of_le h.lt hb.size⟩
/-- Rounds that are told anew. -/
theorem rz_is {B : Nat} {xs : List Rn} (h : Rz w g xs) (ho : ∀ r ∈ xs, Own B w r) : IsRs w (some ⟨g, 0, none⟩) xs.length xs := ⟨h.at.size, h.at.lies, fun r hr => (ho r hr).ru⟩
theorem alk_map {xs ys : List Rn} {l : List Cr} (h : xs.map kR = l) (h' : ys.map kR = l) : Alk l.length xs ys := fun i hi => by
  have e : kR (xs.getD i rn0) = kR (ys.getD i rn0) := by rw [← map_getD, ← map_getD, h, h']
  unfold kR at e
  injection e with e1 e2
  injection e2 with e2 e3
  exact ⟨e1, e2, e3⟩
theorem kn_short {xs : List Rn} (hs : s.Ok n) (h : xs.map kR = s.kn) (i : Nat) (hi : i < s.kn.length) : (xs.getD i rn0).us.length ≤ 1000000 := by
  have e : (kR (xs.getD i rn0)).2.2 = (xs.getD i rn0).us := rfl
  rw [← map_getD, h] at e
  have hm : s.kn.getD i kr0 ∈ s.kn := by
    have e2 : s.kn.getD i kr0 = s.kn[i] := by simp [List.getD_eq_getElem?_getD, hi]
    rw [e2]; exact List.getElem_mem _
  have := (hs.sk _ hm).1
  rw [e] at this
  omega
theorem pd_short {xs : List Rn} (hs : s.Ok n) (h : Of s.o s.k (s.uss.drop s.k) xs) (i : Nat) (hi : i < s.uss.length - s.k) : (xs.getD i rn0).us.length ≤ 1000000 := by
  have e := (h.at' i (by rw [List.length_drop]; exact hi)).2.2
  have hm : (s.uss.drop s.k).getD i [] ∈ s.uss := by
    have e2 : (s.uss.drop s.k).getD i [] = s.uss.getD (s.k + i) [] := by simp [List.getD_eq_getElem?_getD, List.getElem?_drop]
    rw [e2]; exact mem_getL (by omega)
  have := (hs.su _ hm).1
  rw [e]
  omega
theorem Rz.rowR {B : Nat} {rs : List Rn} (h : Rz w g rs) (hB : B ≤ g) (hl : rs.length ≤ 1000000) : RowR B w (.slice (some ⟨g, 0, none⟩) rs.length rs.length) rs :=
  ⟨flR_len rs, .inr ⟨g, rs.length, _, rfl, hB, h, Nat.le_refl _, by unfold maxLen; omega, by simp [flR_len], List.take_of_length_le (by simp [flR_len])⟩⟩
/-- A round of its own stays behind an append to a row of rounds. -/
theorem own_grown {B : Nat} {rs : List Rn} {r : Rn} (h : Own B w r) (hk : Rz w g rs) (hg : w.grownBy w' (some g)) : Ru w' r := by
  obtain ⟨b, e, hr, hB, e1, e2⟩ := h
  have hne : b ≠ g := by
    rintro rfl
    have h1 : some (Obj.cells _ _ _) = some (Obj.cells _ _ _) := hr.symm.trans hk
    injection h1 with h1
    injection h1 with _ h1 _
    exact absurd h1 (by decide)
  have hr' : Rw w' b r.us := (hg.block b hr.lt (fun e => hne (Option.some.inj e))).trans hr
  exact Own.ru (B := B) ⟨b, e, hr', hB, e1, e2⟩
theorem own_next {B : Nat} {r : Rn} (h : Own B w r) (hb : Below w.heap.size w w') : Own B w' r := by
  obtain ⟨b, e, hr, hB, e1, e2⟩ := h
  exact ⟨b, e, (hb.block b hr.lt).trans hr, hB, e1, e2⟩
theorem app_is {B : Nat} {a : Option Addr} {c m : Nat} {xs ys : List Rn} (h : RowR B w (.slice a (xs.length + m) c) (xs ++ ys)) (hm : ys.length = m) (hx : ∀ r ∈ xs, Ru w r) (hy : ∀ r ∈ ys, Ru w r) : IsRs w a (xs.length + m) (xs ++ ys) :=
  (h.isR (by rw [List.length_append, hm]) fun r hr => (List.mem_append.1 hr).elim (hx r) (hy r)).1
/-- What is read of what is told. -/
theorem told_flat {xs ys : List Rn} (hx : xs.map kR = s.kn) (hy : Of s.o s.k (s.uss.drop s.k) ys) : Y.flatR (xs ++ ys) = (s.kn.flatMap fun r => r.2.2) ++ (s.uss.drop s.k).flatten := by
  have e : Y.flatR (xs ++ ys) = Y.flatR xs ++ Y.flatR ys := by simp [Y.flatR, List.flatMap_append]
  rw [e, flat_kn, hx, hy.flat]
end
end Go.Proofs.YtbbgibekplfacaaDoor
/- The program's client alone behind the calls on both; rows that are held; what was known is known again. -/
namespace Go.Proofs.YtbbgibekplfacaaDoor
open Go Go.RowKit
set_option maxRecDepth 20000
/-- The program's client goes on; the document's stays as it was. -/
structure Ka (W w : World) (g cb db : Nat) (P D : Nat → Prop) (s sd : Cs) : Prop where
  bel : Below W.heap.size W w
  pk : Pk W.heap.size w cb P s
  dk : Dk W.heap.size w db D sd
  ap : ∀ x, P x → ¬ D x
  kb : Kb w g cb db
  kf : ¬ P g
/-- A row of rounds that was told, held. -/
structure Hx (w : World) (P : Nat → Prop) (g : Nat) (xs : List Rn) : Prop where
  rz : Rz w g xs
  ng : ¬ P g
  own : ∀ r ∈ xs, ∃ b, r.a = some ⟨b, 0, none⟩ ∧ Rw w b r.us ∧ ¬ P b ∧ r.len = r.us.length ∧ r.cap = r.us.length
section
variable {W w w' w0 : World} {B b g cb db : Nat} {P D P' D' : Nat → Prop} {n m : Nat} {s s' sd : Cs} {xs : List Rn}
theorem Kl.mono (h : Kl W w g cb db P D n s) : Kl W w g cb db P D (n + 1) s := ⟨h.kq.mono h.kq.ok.more, h.kb, h.kf⟩
theorem Kl.alone (h : Kl W w g cb db P D n s) : Ka W w g cb db P D s s := ⟨h.bel, h.kq.pk, h.kq.dk, h.kq.ap, h.kb, fun e => h.kf ⟨(h.kq.pk.foot g e).1, .inl e⟩⟩
theorem Ka.next (h : Ka W w g cb db P D s sd) (hb : Below w.heap.size w w') : Ka W w' g cb db P D s sd := ⟨Below.next h.bel hb, h.pk.next hb, h.dk.next hb, h.ap, h.kb.next hb, h.kf⟩
theorem Ka.step (h : Ka W w g cb db P D s sd) (hp : PkW W.heap.size w w' cb P P' s') : Ka W w' g cb db P' D s' sd :=
  ⟨hp.lv.below h.bel (fun k hk => (h.pk.foot k hk).1) h.bel.size, hp.pk, h.dk.other hp.lv fun x hx hy => h.ap x hy hx, fun x hx hd => by
    rcases hp.new x hx with hy | hy
    · exact h.ap x hy hd
    · have := h.dk.foot x hd
      omega, h.kb.same (hp.off h.kb.lt h.kf), fun e => by
    rcases hp.new g e with hy | hy
    · exact h.kf hy
    · have := h.kb.lt
      omega⟩
theorem PkW.not (hp : PkW B w w' b P P' s') {x : Nat} (hl : x < w.heap.size) (hn : ¬ P x) : ¬ P' x := fun e => by
  rcases hp.new x e with hy | hy
  · exact hn hy
  · omega
theorem Hx.new (hp : Pk B w0 cb P s) (hrz : Rz w g xs) (hg : w0.heap.size ≤ g) (how : ∀ r ∈ xs, Own w0.heap.size w r) : Hx w P g xs :=
  ⟨hrz, fun e => by have := (hp.foot g e).2; omega, fun r hr => by
    obtain ⟨c, e, hw, hc, e1, e2⟩ := how r hr
    exact ⟨c, e, hw, fun e => by have := (hp.foot c e).2; omega, e1, e2⟩⟩
theorem Hx.next (h : Hx w P g xs) (hb : Below w.heap.size w w') : Hx w' P g xs := ⟨h.rz.next hb, h.ng, fun r hr => by
  obtain ⟨c, e, hw, hc, e1, e2⟩ := h.own r hr
  exact ⟨c, e, (hb.block c hw.lt).trans hw, hc, e1, e2⟩⟩
theorem Hx.step (h : Hx w P g xs) (hp : PkW B w w' b P P' s') : Hx w' P' g xs := ⟨(hp.off h.rz.lt h.ng).trans h.rz, hp.not h.rz.lt h.ng, fun r hr => by
  obtain ⟨c, e, hw, hc, e1, e2⟩ := h.own r hr
  exact ⟨c, e, (hp.off hw.lt hc).trans hw, hp.not hw.lt hc, e1, e2⟩⟩
theorem Hx.ru (h : Hx w P g xs) {r : Rn} (hr : r ∈ xs) : Ru w r := by
  obtain ⟨c, e, hw, hc, e1, e2⟩ := h.own r hr
  exact Own.ru (B := 0) ⟨c, e, hw, Nat.zero_le _, e1, e2⟩
theorem Hx.is (h : Hx w P g xs) : IsRs w (some ⟨g, 0, none⟩) xs.length xs := ⟨h.rz.at.size, h.rz.at.lies, fun _ hr => h.ru hr⟩
/-- The document's journal, as it is told. -/
structure Jv (w : World) (db jb : Nat) (a : Option Addr) (c : Nat) (rs : List Rn) (s : Cs) : Prop where
  c0 : w.cell? ⟨db, 0, none⟩ = some (.pointer (some ⟨jb, 0, none⟩))
  c2 : w.cell? ⟨jb, 2, none⟩ = some (.slice a s.uss.length c)
  is : IsRs w a s.uss.length rs
  of : Of s.o 0 s.uss rs
  lt : db < w.heap.size
  lt2 : jb < w.heap.size
theorem Dk.jv (h : Dk B w db D s) : ∃ jb a c rs, Jv w db jb a c rs s := by
  obtain ⟨jb, FJ, M, ak, lk, ck, rk, ap, lp, cp, rp, ao, lo, co, hq, rfl⟩ := h
  obtain ⟨v, S, rs, hj, ho, _, _⟩ := hq.jx
  obtain ⟨a, c, rfl, hi, _, _⟩ := hj.is
  have hl : rs.length = s.uss.length := ho.len
  have c2 := hj.c2
  rw [hl] at hi c2
  exact ⟨jb, a, c, rs, cell_at hq.blk 0 _ rfl, c2, hi, ho, hq.lt, hj.lt⟩
theorem Jv.next {jb : Nat} {a : Option Addr} {c : Nat} {rs : List Rn} (h : Jv w db jb a c rs s) (hb : Below w.heap.size w w') : Jv w' db jb a c rs s :=
  ⟨(hb.cell h.lt).trans h.c0, (hb.cell h.lt2).trans h.c2, isRs_below h.is hb, h.of, Nat.lt_of_lt_of_le h.lt hb.size, Nat.lt_of_lt_of_le h.lt2 hb.size⟩
end
/-- How many rounds of its own are known. -/
def ownC (o : Int) (kn : List Cr) : Nat := (kn.filter fun r => decide (r.1 = o)).length
theorem ownC_snoc (o : Int) (kn : List Cr) (r : Cr) : ownC o (kn ++ [r]) = ownC o kn + if r.1 = o then 1 else 0 := by
  unfold ownC
  rw [List.filter_append, List.length_append]
  by_cases h : r.1 = o <;> simp [h]
theorem ownC_le (o : Int) (kn : List Cr) (i : Nat) : ownC o (kn.take i) ≤ ownC o kn := by
  unfold ownC
  exact ((List.take_sublist i kn).filter _).length_le
/-- Of what is known, its own rounds stand in order. -/
structure Cs.Wf (x0 : Int) (s : Cs) : Prop where
  o : s.o = x0
  k : s.k = ownC s.o s.kn
  n : ∀ i, i < s.kn.length → (s.kn.getD i kr0).1 = s.o → (s.kn.getD i kr0).2.1 = ((ownC s.o (s.kn.take i) + 1 : Nat) : Int)
theorem wf_new (x0 x1 x2 x3 : Int) : (Cs.new x0 x1 x2 x3).Wf x0 := ⟨rfl, rfl, fun _ hi => absurd hi (Nat.not_lt_zero _)⟩
theorem getD_snoc_lt {l : List Cr} {r : Cr} {i : Nat} (h : i < l.length) : (l ++ [r]).getD i kr0 = l.getD i kr0 := by simp [List.getD_eq_getElem?_getD, List.getElem?_append_left h]
theorem Cs.Wf.take {x0 : Int} {s : Cs} (h : s.Wf x0) (r : Cr) : (s.take r).Wf x0 := by
  unfold Cs.take
  split
  next he =>
    refine ⟨h.o, ?_, fun i hi => ?_⟩
    · show (if r.1 = s.o then s.k + 1 else s.k) = ownC s.o (s.kn ++ [r])
      rw [ownC_snoc, h.k]
      split <;> rfl
    · show ((s.kn ++ [r]).getD i kr0).1 = s.o → ((s.kn ++ [r]).getD i kr0).2.1 = ((ownC s.o ((s.kn ++ [r]).take i) + 1 : Nat) : Int)
      have hi' : i < (s.kn ++ [r]).length := hi
      rw [List.length_append, List.length_singleton] at hi'
      by_cases hl : i < s.kn.length
      · rw [getD_snoc_lt hl, List.take_append_of_le_length (by omega)]
        exact h.n i hl
      · obtain rfl : i = s.kn.length := by omega
        have e : (s.kn ++ [r]).getD s.kn.length kr0 = r := by simp [List.getD_eq_getElem?_getD]
        rw [e, List.take_append_of_le_length (Nat.le_refl _), List.take_length]
        intro ho
        rw [(takeE_own he ho).2, h.k]
  next => exact h
theorem Cs.Wf.act {x0 : Int} {s : Cs} (h : s.Wf x0) (a : Ac) : (s.act a).Wf x0 := by
  unfold Cs.act
  split
  · exact ⟨h.o, h.k, h.n⟩
  · split
    · unfold Cs.push
      split
      · exact ⟨h.o, h.k, h.n⟩
      · exact h
    · split
      · exact h.take _
      · split
        · exact ⟨h.o, rfl, fun i hi => absurd hi (Nat.not_lt_zero _)⟩
        · split
          · split
            · exact h.take _
            · exact h
          · exact h
/-- What is known again, behind i rounds. -/
def rep (s : Cs) (i : Nat) : Cs := { s with kn := s.kn.take i, k := ownC s.o (s.kn.take i), op := [] }
theorem rep_zero (s : Cs) : rep s 0 = s.resume := rfl
theorem rep_take {x0 : Int} {s : Cs} {n i : Nat} (h : s.Wf x0) (ho : s.Ok n) (hi : i < s.kn.length) : (rep s i).takeE (s.kn.getD i kr0) = 0 ∧ (rep s i).take (s.kn.getD i kr0) = rep s (i + 1) := by
  have hs : s.kn.take (i + 1) = s.kn.take i ++ [s.kn.getD i kr0] := by
    rw [List.take_add_one]; simp [List.getD_eq_getElem?_getD, hi]
  have hle := ownC_le s.o s.kn (i + 1)
  rw [← h.k, hs, ownC_snoc] at hle
  have hk := ho.k
  have he : (rep s i).takeE (s.kn.getD i kr0) = 0 := by
    show Go.Proofs.YtbbgibekplfacaaDoor.takeE s.o s.uss.length (ownC s.o (s.kn.take i)) (s.kn.getD i kr0).1 (s.kn.getD i kr0).2.1 = 0
    unfold Go.Proofs.YtbbgibekplfacaaDoor.takeE
    split
    next h1 =>
      rw [if_pos h1] at hle
      rw [if_pos ⟨by omega, h.n i hi h1⟩]
    next => rfl
  refine ⟨he, ?_⟩
  unfold Cs.take
  rw [if_pos he]
  show ({ s with kn := s.kn.take i ++ [s.kn.getD i kr0], k := if (s.kn.getD i kr0).1 = s.o then ownC s.o (s.kn.take i) + 1 else ownC s.o (s.kn.take i), op := [] } : Cs) = { s with kn := s.kn.take (i + 1), k := ownC s.o (s.kn.take (i + 1)), op := [] }
  rw [hs, ownC_snoc]
  split <;> rfl
theorem rep_end {x0 : Int} {s : Cs} (h : s.Wf x0) : rep s s.kn.length = { s with op := [] } := by
  unfold rep
  rw [List.take_length, ← h.k]
end Go.Proofs.YtbbgibekplfacaaDoor
/- A value laid in a block of the law's own, beside calls; rows that are held beside it. -/
namespace Go.Proofs.YtbbgibekplfacaaDoor
open Go Go.RowKit
set_option maxRecDepth 20000
/-- A told row of updates, held. -/
structure Ho (w : World) (P : Nat → Prop) (g : Nat) (us : List Up) : Prop where
  rw : Rw w g us
  ng : ¬ P g
/-- A block gv of the law's own in which a value is to be laid. -/
structure Kz (W w : World) (g cb db : Nat) (P D : Nat → Prop) (s sd : Cs) (gv : Nat) : Prop where
  ka : Ka W w g cb db P D s sd
  vb : Y.Vb w gv (0, 0, ⟨#[]⟩)
  np : ¬ P gv
  nd : ¬ D gv
  ng : g ≠ gv
  lo : W.heap.size ≤ gv
section
variable {W w w' w0 : World} {B b g cb db gv : Nat} {P D P' D' : Nat → Prop} {n m : Nat} {s s' sd : Cs} {xs : List Rn} {us : List Up}
theorem Kz.make (h : Ka W w g cb db P D s sd) : Kz W (w.alloc (.cells #[.int .i64 0, .int .i64 0, .string ⟨#[]⟩] 49)) g cb db P D s sd w.heap.size :=
  ⟨h.next (Joins.below_alloc1 _ _), heap_alloc_new w _, fun e => by have := (h.pk.foot _ e).2; omega, fun e => by have := h.dk.foot _ e; omega, fun e => by have := h.kb.lt; omega, h.bel.size⟩
theorem Kz.next (h : Kz W w g cb db P D s sd gv) (hb : Below w.heap.size w w') : Kz W w' g cb db P D s sd gv := ⟨h.ka.next hb, h.vb.kept hb rfl, h.np, h.nd, h.ng, h.lo⟩
theorem lv_set3 (w : World) (gv : Nat) (a b c : Value) : Lv w (((w.setCell ⟨gv, 0, none⟩ a).setCell ⟨gv, 1, none⟩ b).setCell ⟨gv, 2, none⟩ c) (fun x => x = gv) :=
  ((Lv.set (F := fun x => x = gv) rfl 0 a).trans (Lv.set (F := fun x => x = gv) rfl 1 b)).trans (Lv.set (F := fun x => x = gv) rfl 2 c)
theorem Kz.store (h : Kz W w g cb db P D s sd gv) (v1 v2 : Int) (v3 : ByteArray) : Ka W (((w.setCell ⟨gv, 0, none⟩ (.int .i64 v1)).setCell ⟨gv, 1, none⟩ (.int .i64 v2)).setCell ⟨gv, 2, none⟩ (.string v3)) g cb db P D s sd ∧ Hv (((w.setCell ⟨gv, 0, none⟩ (.int .i64 v1)).setCell ⟨gv, 1, none⟩ (.int .i64 v2)).setCell ⟨gv, 2, none⟩ (.string v3)) P gv (v1, v2, v3) := by
  have hl := lv_set3 w gv (.int .i64 v1) (.int .i64 v2) (.string v3)
  refine ⟨⟨hl.below h.ka.bel (fun k hk => by rw [hk]; exact h.lo) h.ka.bel.size, h.ka.pk.other hl fun x hx e => h.np (by rw [← e]; exact hx), h.ka.dk.other hl fun x hx e => h.nd (by rw [← e]; exact hx), h.ka.ap, h.ka.kb.same (hl.block g h.ka.kb.lt h.ng), h.ka.kf⟩, Y.Vb.set h.vb v1 v2 v3, h.np⟩
theorem Hx.fence (h : Hx w P g xs) (o : Obj) : Hx (w.alloc o) (fun x => P x ∨ x = w.heap.size) g xs :=
  have h' := h.next (Joins.below_alloc1 w o)
  ⟨h'.rz, fun e => e.elim h.ng fun e => by have := h.rz.lt; omega, fun r hr => by
    obtain ⟨c, e, hw, hc, e1, e2⟩ := h.own r hr
    exact ⟨c, e, ((Joins.below_alloc1 w o).block c hw.lt).trans hw, fun x => x.elim hc fun x => by have := hw.lt; omega, e1, e2⟩⟩
theorem Hx.own' (h : Hx w (fun x => P x ∨ x = gv) g xs) (hl : Lv w w' (fun x => x = gv)) : Hx w' P g xs :=
  ⟨(hl.block g h.rz.lt fun e => h.ng (.inr e)).trans h.rz, fun e => h.ng (.inl e), fun r hr => by
    obtain ⟨c, e, hw, hc, e1, e2⟩ := h.own r hr
    exact ⟨c, e, (hl.block c hw.lt fun e => hc (.inr e)).trans hw, fun e => hc (.inl e), e1, e2⟩⟩
theorem Ho.next (h : Ho w P g us) (hb : Below w.heap.size w w') : Ho w' P g us := ⟨(hb.block g h.rw.lt).trans h.rw, h.ng⟩
theorem Ho.step (h : Ho w P g us) (hp : PkW B w w' b P P' s') : Ho w' P' g us := ⟨(hp.off h.rw.lt h.ng).trans h.rw, hp.not h.rw.lt h.ng⟩
theorem Ho.new (hp : Pk B w0 cb P s) (hr : Rw w g us) (hg : w0.heap.size ≤ g) : Ho w P g us := ⟨hr, fun e => by have := (hp.foot g e).2; omega⟩
theorem Ho.fence (h : Ho w P g us) (o : Obj) : Ho (w.alloc o) (fun x => P x ∨ x = w.heap.size) g us := ⟨((Joins.below_alloc1 w o).block g h.rw.lt).trans h.rw, fun e => e.elim h.ng fun e => by have := h.rw.lt; omega⟩
theorem Ho.own' (h : Ho w (fun x => P x ∨ x = gv) g us) (hl : Lv w w' (fun x => x = gv)) : Ho w' P g us := ⟨(hl.block g h.rw.lt fun e => h.ng (.inr e)).trans h.rw, fun e => h.ng (.inl e)⟩
end
end Go.Proofs.YtbbgibekplfacaaDoor
/- Plain facts of ClientPushes and ClientWaits; one key of a row is stored anew. -/
namespace Go.Proofs.YtbbgibekplfacaaDoor
open Go Go.RowKit
set_option maxRecDepth 20000
/-- A push changes nothing of what is seen. -/
theorem push_seen {s : Cs} (hk : s.k ≤ s.uss.length) : s.push.seen = s.seen := by
  unfold Cs.push
  split
  · show seenU (s.uss ++ [s.op]) s.k s.kn [] = seenU s.uss s.k s.kn s.op
    unfold seenU
    rw [List.drop_append_of_le_length hk, List.flatten_append, List.append_nil]
    simp [List.append_assoc]
  · rfl
/-- A round of another's is taken. -/
theorem take_oth {s : Cs} {r : Cr} (h : ¬ r.1 = s.o) : s.takeE r = 0 ∧ s.take r = { s with kn := s.kn ++ [r] } := by
  have he : s.takeE r = 0 := by
    show Go.Proofs.YtbbgibekplfacaaDoor.takeE s.o s.uss.length s.k r.1 r.2.1 = 0
    unfold Go.Proofs.YtbbgibekplfacaaDoor.takeE
    rw [if_neg h]
  refine ⟨he, ?_⟩
  unfold Cs.take
  rw [if_pos he]
  show ({ s with kn := s.kn ++ [r], k := if r.1 = s.o then s.k + 1 else s.k } : Cs) = _
  rw [if_neg h]
end Go.Proofs.YtbbgibekplfacaaDoor
