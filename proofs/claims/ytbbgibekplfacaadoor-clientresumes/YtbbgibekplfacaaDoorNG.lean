/- What the six laws of stage 17 share. -/
import Derived.Test.YtbbgibekplfacaaDoorNE
import Derived.Test.YtbbgibekplfacaaDoorNF
namespace Go.Proofs.YtbbgibekplfacaaDoor
open Go Go.RowKit
set_option maxRecDepth 20000
/-- In a region that draws, what is said of each world may become more. -/
theorem wpAnyH_more {P : Program} {ops : Array Oper} {Q : Exit → Act → World → Prop} {md : Region.Mode} {S S' : World → Prop} (hS : ∀ w, S' w → S w) : ∀ (fuel : Nat) (listed : Array Bool) (a : Act) (w : World), wpAnyH P md ops Q S' fuel listed a w → wpAnyH P md ops Q S fuel listed a w
  | 0, _, _, _, h => h
  | fuel + 1, _, _, _, h => ⟨h.1, fun i hi => wpOp_mono (fun a' w' h' => ⟨hS _ h'.1, wpAnyH_more hS fuel _ a' w' h'.2⟩) (h.2 i hi)⟩
/-- A law's state: both clients, and the kit's block. -/
structure Kl (W w : World) (g cb db : Nat) (P D : Nat → Prop) (n : Nat) (s : Cs) : Prop where
  kq : Kq W w cb db P D n s
  kb : Kb w g cb db
  kf : ¬ Kf W P D g
/-- The document's lists, as its client's block tells them. -/
structure Dv (w : World) (db : Nat) (ak : Option Addr) (ck : Nat) (rk : List Rn) (ap : Option Addr) (cp : Nat) (rp : List Rn) (ao : Option Addr) (co : Nat) (s : Cs) : Prop where
  c4 : w.cell? ⟨db, 4, none⟩ = some (.slice ak s.kn.length ck)
  c5 : w.cell? ⟨db, 5, none⟩ = some (.slice ap (s.uss.length - s.k) cp)
  c6 : w.cell? ⟨db, 6, none⟩ = some (.slice ao s.op.length co)
  kr : IsRs w ak s.kn.length rk
  km : rk.map kR = s.kn
  pr : IsRs w ap (s.uss.length - s.k) rp
  po : Of s.o s.k (s.uss.drop s.k) rp
  ou : IsUs w ao s.op.length s.op
  lt : db < w.heap.size
section
variable {W w w' : World} {g cb db : Nat} {P D P' D' : Nat → Prop} {n m : Nat} {s s' : Cs} {ak ap ao : Option Addr} {ck cp co : Nat} {rk rp : List Rn}
theorem Kl.start (h : Kq W w cb db P D n s) : Kl W (w.alloc (.cells #[.pointer (some ⟨cb, 0, none⟩), .pointer (some ⟨db, 0, none⟩)] 27)) w.heap.size cb db P D n s :=
  ⟨h.next (Joins.below_alloc1 _ _), heap_alloc_new _ _, fun e => by
    rcases e.2 with e | e
    · have := (h.pk.foot _ e).2; omega
    · have := h.dk.foot _ e; omega⟩
theorem Kl.next (h : Kl W w g cb db P D n s) (hb : Below w.heap.size w w') : Kl W w' g cb db P D n s := ⟨h.kq.next hb, h.kb.next hb, h.kf⟩
theorem Kl.step (h : Kl W w g cb db P D n s) (hs : KqW W w w' cb db P D P' D' m s') : Kl W w' g cb db P' D' m s' :=
  ⟨hs.kq, h.kb.same (hs.held h.kb.lt h.kf).1, (hs.held h.kb.lt h.kf).2⟩
theorem Kl.bel (h : Kl W w g cb db P D n s) : Below W.heap.size W w := h.kq.bel
theorem Kl.view (h : Kl W w g cb db P D n s) : ∃ ak ck rk ap cp rp ao co, Dv w db ak ck rk ap cp rp ao co s := by
  obtain ⟨jb, FJ, M, ak, lk, ck, rk, ap, lp, cp, rp, ao, lo, co, hq, rfl⟩ := h.kq.dk
  obtain rfl : s.kn.length = lk := by rw [← hq.km, List.length_map]; exact hq.kr.is.size
  obtain rfl : s.uss.length - s.k = lp := by rw [← hq.pr.is.size, hq.po.len, List.length_drop]
  obtain rfl : s.op.length = lo := hq.ou.is.size
  exact ⟨ak, ck, rk, ap, cp, rp, ao, co, cell_at hq.blk 4 _ rfl, cell_at hq.blk 5 _ rfl, cell_at hq.blk 6 _ rfl, hq.kr.is, hq.km, hq.pr.is, hq.po, hq.ou.is, hq.lt⟩
theorem Dv.next (h : Dv w db ak ck rk ap cp rp ao co s) (hb : Below w.heap.size w w') : Dv w' db ak ck rk ap cp rp ao co s :=
  ⟨(hb.cell h.lt).trans h.c4, (hb.cell h.lt).trans h.c5, (hb.cell h.lt).trans h.c6, isRs_below h.kr hb, h.km, isRs_below h.pr hb, h.po, isUs_below h.ou hb, Nat.lt_of_lt_of_le h.lt hb.size⟩
/-- Rounds that are told anew. -/
theorem rz_is {B : Nat} {xs : List Rn} (h : Rz w g xs) (ho : ∀ r ∈ xs, Own B w r) : IsRs w (some ⟨g, 0, none⟩) xs.length xs := ⟨h.at.size, h.at.lies, fun r hr => (ho r hr).ru⟩
theorem alk_map {xs ys : List Rn} {l : List Cr} (h : xs.map kR = l) (h' : ys.map kR = l) : Alk l.length xs ys := fun i hi => by
  have e : kR (xs.getD i rn0) = kR (ys.getD i rn0) := by rw [← map_getD, ← map_getD, h, h']
  unfold kR at e
  injection e with e1 e2
  injection e2 with e2 e3
  exact ⟨e1, e2, e3⟩
theorem kn_short {xs : List Rn} (hs : s.Ok n) (h : xs.map kR = s.kn) (i : Nat) (hi : i < s.kn.length) : (xs.getD i rn0).us.length ≤ 1000000 := by
  have e : (kR (xs.getD i rn0)).2.2 = (xs.getD i rn0).us := rfl
  rw [← map_getD, h] at e
  have hm : s.kn.getD i kr0 ∈ s.kn := by
    have e2 : s.kn.getD i kr0 = s.kn[i] := by simp [List.getD_eq_getElem?_getD, hi]
    rw [e2]; exact List.getElem_mem _
  have := (hs.sk _ hm).1
  rw [e] at this
  omega
theorem pd_short {xs : List Rn} (hs : s.Ok n) (h : Of s.o s.k (s.uss.drop s.k) xs) (i : Nat) (hi : i < s.uss.length - s.k) : (xs.getD i rn0).us.length ≤ 1000000 := by
  have e := (h.at' i (by rw [List.length_drop]; exact hi)).2.2
  have hm : (s.uss.drop s.k).getD i [] ∈ s.uss := by
    have e2 : (s.uss.drop s.k).getD i [] = s.uss.getD (s.k + i) [] := by simp [List.getD_eq_getElem?_getD, List.getElem?_drop]
    rw [e2]; exact mem_getL (by omega)
  have := (hs.su _ hm).1
  rw [e]
  omega
theorem Rz.rowR {B : Nat} {rs : List Rn} (h : Rz w g rs) (hB : B ≤ g) (hl : rs.length ≤ 1000000) : RowR B w (.slice (some ⟨g, 0, none⟩) rs.length rs.length) rs :=
  ⟨flR_len rs, .inr ⟨g, rs.length, _, rfl, hB, h, Nat.le_refl _, by unfold maxLen; omega, by simp [flR_len], List.take_of_length_le (by simp [flR_len])⟩⟩
/-- A round of its own stays behind an append to a row of rounds. -/
theorem own_grown {B : Nat} {rs : List Rn} {r : Rn} (h : Own B w r) (hk : Rz w g rs) (hg : w.grownBy w' (some g)) : Ru w' r := by
  obtain ⟨b, e, hr, hB, e1, e2⟩ := h
  have hne : b ≠ g := by
    rintro rfl
    have h1 : some (Obj.cells _ _ _) = some (Obj.cells _ _ _) := hr.symm.trans hk
    injection h1 with h1
    injection h1 with _ h1 _
    exact absurd h1 (by decide)
  have hr' : Rw w' b r.us := (hg.block b hr.lt (fun e => hne (Option.some.inj e))).trans hr
  exact Own.ru (B := B) ⟨b, e, hr', hB, e1, e2⟩
theorem own_next {B : Nat} {r : Rn} (h : Own B w r) (hb : Below w.heap.size w w') : Own B w' r := by
  obtain ⟨b, e, hr, hB, e1, e2⟩ := h
  exact ⟨b, e, (hb.block b hr.lt).trans hr, hB, e1, e2⟩
theorem app_is {B : Nat} {a : Option Addr} {c m : Nat} {xs ys : List Rn} (h : RowR B w (.slice a (xs.length + m) c) (xs ++ ys)) (hm : ys.length = m) (hx : ∀ r ∈ xs, Ru w r) (hy : ∀ r ∈ ys, Ru w r) : IsRs w a (xs.length + m) (xs ++ ys) :=
  (h.isR (by rw [List.length_append, hm]) fun r hr => (List.mem_append.1 hr).elim (hx r) (hy r)).1
/-- What is read of what is told. -/
theorem told_flat {xs ys : List Rn} (hx : xs.map kR = s.kn) (hy : Of s.o s.k (s.uss.drop s.k) ys) : Y.flatR (xs ++ ys) = (s.kn.flatMap fun r => r.2.2) ++ (s.uss.drop s.k).flatten := by
  have e : Y.flatR (xs ++ ys) = Y.flatR xs ++ Y.flatR ys := by simp [Y.flatR, List.flatMap_append]
  rw [e, flat_kn, hx, hy.flat]
end
end Go.Proofs.YtbbgibekplfacaaDoor
