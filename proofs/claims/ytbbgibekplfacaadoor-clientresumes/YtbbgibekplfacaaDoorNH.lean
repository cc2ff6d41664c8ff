/- The program's client alone behind the calls on both; rows that are held; what was known is known again. -/
import Derived.Test.YtbbgibekplfacaaDoorNG
namespace Go.Proofs.YtbbgibekplfacaaDoor
open Go Go.RowKit
set_option maxRecDepth 20000
/-- The program's client goes on; the document's stays as it was. -/
structure Ka (W w : World) (g cb db : Nat) (P D : Nat → Prop) (s sd : Cs) : Prop where
  bel : Below W.heap.size W w
  pk : Pk W.heap.size w cb P s
  dk : Dk W.heap.size w db D sd
  ap : ∀ x, P x → ¬ D x
  kb : Kb w g cb db
  kf : ¬ P g
/-- A row of rounds that was told, held. -/
structure Hx (w : World) (P : Nat → Prop) (g : Nat) (xs : List Rn) : Prop where
  rz : Rz w g xs
  ng : ¬ P g
  own : ∀ r ∈ xs, ∃ b, r.a = some ⟨b, 0, none⟩ ∧ Rw w b r.us ∧ ¬ P b ∧ r.len = r.us.length ∧ r.cap = r.us.length
section
variable {W w w' w0 : World} {B b g cb db : Nat} {P D P' D' : Nat → Prop} {n m : Nat} {s s' sd : Cs} {xs : List Rn}
theorem Kl.mono (h : Kl W w g cb db P D n s) : Kl W w g cb db P D (n + 1) s := ⟨h.kq.mono h.kq.ok.more, h.kb, h.kf⟩
theorem Kl.alone (h : Kl W w g cb db P D n s) : Ka W w g cb db P D s s := ⟨h.bel, h.kq.pk, h.kq.dk, h.kq.ap, h.kb, fun e => h.kf ⟨(h.kq.pk.foot g e).1, .inl e⟩⟩
theorem Ka.next (h : Ka W w g cb db P D s sd) (hb : Below w.heap.size w w') : Ka W w' g cb db P D s sd := ⟨Below.next h.bel hb, h.pk.next hb, h.dk.next hb, h.ap, h.kb.next hb, h.kf⟩
theorem Ka.step (h : Ka W w g cb db P D s sd) (hp : PkW W.heap.size w w' cb P P' s') : Ka W w' g cb db P' D s' sd :=
  ⟨hp.lv.below h.bel (fun k hk => (h.pk.foot k hk).1) h.bel.size, hp.pk, h.dk.other hp.lv fun x hx hy => h.ap x hy hx, fun x hx hd => by
    rcases hp.new x hx with hy | hy
    · exact h.ap x hy hd
    · have := h.dk.foot x hd
      omega, h.kb.same (hp.off h.kb.lt h.kf), fun e => by
    rcases hp.new g e with hy | hy
    · exact h.kf hy
    · have := h.kb.lt
      omega⟩
theorem PkW.not (hp : PkW B w w' b P P' s') {x : Nat} (hl : x < w.heap.size) (hn : ¬ P x) : ¬ P' x := fun e => by
  rcases hp.new x e with hy | hy
  · exact hn hy
  · omega
theorem Hx.new (hp : Pk B w0 cb P s) (hrz : Rz w g xs) (hg : w0.heap.size ≤ g) (how : ∀ r ∈ xs, Own w0.heap.size w r) : Hx w P g xs :=
  ⟨hrz, fun e => by have := (hp.foot g e).2; omega, fun r hr => by
    obtain ⟨c, e, hw, hc, e1, e2⟩ := how r hr
    exact ⟨c, e, hw, fun e => by have := (hp.foot c e).2; omega, e1, e2⟩⟩
theorem Hx.next (h : Hx w P g xs) (hb : Below w.heap.size w w') : Hx w' P g xs := ⟨h.rz.next hb, h.ng, fun r hr => by
  obtain ⟨c, e, hw, hc, e1, e2⟩ := h.own r hr
  exact ⟨c, e, (hb.block c hw.lt).trans hw, hc, e1, e2⟩⟩
theorem Hx.step (h : Hx w P g xs) (hp : PkW B w w' b P P' s') : Hx w' P' g xs := ⟨(hp.off h.rz.lt h.ng).trans h.rz, hp.not h.rz.lt h.ng, fun r hr => by
  obtain ⟨c, e, hw, hc, e1, e2⟩ := h.own r hr
  exact ⟨c, e, (hp.off hw.lt hc).trans hw, hp.not hw.lt hc, e1, e2⟩⟩
theorem Hx.ru (h : Hx w P g xs) {r : Rn} (hr : r ∈ xs) : Ru w r := by
  obtain ⟨c, e, hw, hc, e1, e2⟩ := h.own r hr
  exact Own.ru (B := 0) ⟨c, e, hw, Nat.zero_le _, e1, e2⟩
theorem Hx.is (h : Hx w P g xs) : IsRs w (some ⟨g, 0, none⟩) xs.length xs := ⟨h.rz.at.size, h.rz.at.lies, fun _ hr => h.ru hr⟩
/-- The document's journal, as it is told. -/
structure Jv (w : World) (db jb : Nat) (a : Option Addr) (c : Nat) (rs : List Rn) (s : Cs) : Prop where
  c0 : w.cell? ⟨db, 0, none⟩ = some (.pointer (some ⟨jb, 0, none⟩))
  c2 : w.cell? ⟨jb, 2, none⟩ = some (.slice a s.uss.length c)
  is : IsRs w a s.uss.length rs
  of : Of s.o 0 s.uss rs
  lt : db < w.heap.size
  lt2 : jb < w.heap.size
theorem Dk.jv (h : Dk B w db D s) : ∃ jb a c rs, Jv w db jb a c rs s := by
  obtain ⟨jb, FJ, M, ak, lk, ck, rk, ap, lp, cp, rp, ao, lo, co, hq, rfl⟩ := h
  obtain ⟨v, S, rs, hj, ho, _, _⟩ := hq.jx
  obtain ⟨a, c, rfl, hi, _, _⟩ := hj.is
  have hl : rs.length = s.uss.length := ho.len
  have c2 := hj.c2
  rw [hl] at hi c2
  exact ⟨jb, a, c, rs, cell_at hq.blk 0 _ rfl, c2, hi, ho, hq.lt, hj.lt⟩
theorem Jv.next {jb : Nat} {a : Option Addr} {c : Nat} {rs : List Rn} (h : Jv w db jb a c rs s) (hb : Below w.heap.size w w') : Jv w' db jb a c rs s :=
  ⟨(hb.cell h.lt).trans h.c0, (hb.cell h.lt2).trans h.c2, isRs_below h.is hb, h.of, Nat.lt_of_lt_of_le h.lt hb.size, Nat.lt_of_lt_of_le h.lt2 hb.size⟩
end
/-- How many rounds of its own are known. -/
def ownC (o : Int) (kn : List Cr) : Nat := (kn.filter fun r => decide (r.1 = o)).length
theorem ownC_snoc (o : Int) (kn : List Cr) (r : Cr) : ownC o (kn ++ [r]) = ownC o kn + if r.1 = o then 1 else 0 := by
  unfold ownC
  rw [List.filter_append, List.length_append]
  by_cases h : r.1 = o <;> simp [h]
theorem ownC_le (o : Int) (kn : List Cr) (i : Nat) : ownC o (kn.take i) ≤ ownC o kn := by
  unfold ownC
  exact ((List.take_sublist i kn).filter _).length_le
/-- Of what is known, its own rounds stand in order. -/
structure Cs.Wf (x0 : Int) (s : Cs) : Prop where
  o : s.o = x0
  k : s.k = ownC s.o s.kn
  n : ∀ i, i < s.kn.length → (s.kn.getD i kr0).1 = s.o → (s.kn.getD i kr0).2.1 = ((ownC s.o (s.kn.take i) + 1 : Nat) : Int)
theorem wf_new (x0 x1 x2 x3 : Int) : (Cs.new x0 x1 x2 x3).Wf x0 := ⟨rfl, rfl, fun _ hi => absurd hi (Nat.not_lt_zero _)⟩
theorem getD_snoc_lt {l : List Cr} {r : Cr} {i : Nat} (h : i < l.length) : (l ++ [r]).getD i kr0 = l.getD i kr0 := by simp [List.getD_eq_getElem?_getD, List.getElem?_append_left h]
theorem Cs.Wf.take {x0 : Int} {s : Cs} (h : s.Wf x0) (r : Cr) : (s.take r).Wf x0 := by
  unfold Cs.take
  split
  next he =>
    refine ⟨h.o, ?_, fun i hi => ?_⟩
    · show (if r.1 = s.o then s.k + 1 else s.k) = ownC s.o (s.kn ++ [r])
      rw [ownC_snoc, h.k]
      split <;> rfl
    · show ((s.kn ++ [r]).getD i kr0).1 = s.o → ((s.kn ++ [r]).getD i kr0).2.1 = ((ownC s.o ((s.kn ++ [r]).take i) + 1 : Nat) : Int)
      have hi' : i < (s.kn ++ [r]).length := hi
      rw [List.length_append, List.length_singleton] at hi'
      by_cases hl : i < s.kn.length
      · rw [getD_snoc_lt hl, List.take_append_of_le_length (by omega)]
        exact h.n i hl
      · obtain rfl : i = s.kn.length := by omega
        have e : (s.kn ++ [r]).getD s.kn.length kr0 = r := by simp [List.getD_eq_getElem?_getD]
        rw [e, List.take_append_of_le_length (Nat.le_refl _), List.take_length]
        intro ho
        rw [(takeE_own he ho).2, h.k]
  next => exact h
theorem Cs.Wf.act {x0 : Int} {s : Cs} (h : s.Wf x0) (a : Ac) : (s.act a).Wf x0 := by
  unfold Cs.act
  split
  · exact ⟨h.o, h.k, h.n⟩
  · split
    · unfold Cs.push
      split
      · exact ⟨h.o, h.k, h.n⟩
      · exact h
    · split
      · exact h.take _
      · split
        · exact ⟨h.o, rfl, fun i hi => absurd hi (Nat.not_lt_zero _)⟩
        · split
          · split
            · exact h.take _
            · exact h
          · exact h
/-- What is known again, behind i rounds. -/
def rep (s : Cs) (i : Nat) : Cs := { s with kn := s.kn.take i, k := ownC s.o (s.kn.take i), op := [] }
theorem rep_zero (s : Cs) : rep s 0 = s.resume := rfl
theorem rep_take {x0 : Int} {s : Cs} {n i : Nat} (h : s.Wf x0) (ho : s.Ok n) (hi : i < s.kn.length) : (rep s i).takeE (s.kn.getD i kr0) = 0 ∧ (rep s i).take (s.kn.getD i kr0) = rep s (i + 1) := by
  have hs : s.kn.take (i + 1) = s.kn.take i ++ [s.kn.getD i kr0] := by
    rw [List.take_add_one]; simp [List.getD_eq_getElem?_getD, hi]
  have hle := ownC_le s.o s.kn (i + 1)
  rw [← h.k, hs, ownC_snoc] at hle
  have hk := ho.k
  have he : (rep s i).takeE (s.kn.getD i kr0) = 0 := by
    show Go.Proofs.YtbbgibekplfacaaDoor.takeE s.o s.uss.length (ownC s.o (s.kn.take i)) (s.kn.getD i kr0).1 (s.kn.getD i kr0).2.1 = 0
    unfold Go.Proofs.YtbbgibekplfacaaDoor.takeE
    split
    next h1 =>
      rw [if_pos h1] at hle
      rw [if_pos ⟨by omega, h.n i hi h1⟩]
    next => rfl
  refine ⟨he, ?_⟩
  unfold Cs.take
  rw [if_pos he]
  show ({ s with kn := s.kn.take i ++ [s.kn.getD i kr0], k := if (s.kn.getD i kr0).1 = s.o then ownC s.o (s.kn.take i) + 1 else ownC s.o (s.kn.take i), op := [] } : Cs) = { s with kn := s.kn.take (i + 1), k := ownC s.o (s.kn.take (i + 1)), op := [] }
  rw [hs, ownC_snoc]
  split <;> rfl
theorem rep_end {x0 : Int} {s : Cs} (h : s.Wf x0) : rep s s.kn.length = { s with op := [] } := by
  unfold rep
  rw [List.take_length, ← h.k]
end Go.Proofs.YtbbgibekplfacaaDoor
