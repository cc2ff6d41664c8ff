/- The law's map of packets. -/
import Derived.Test.YtjnjpphbclepbaaHO
import Derived.DeepKeys4
import Derived.Maps.OwnSet
import Derived.Maps.OwnOps
import Derived.Maps.Views
namespace Go.Proofs.Ytjnjpphbclepbaa
open Go Go.RowKit Go.Maps
set_option maxRecDepth 20000
theorem rowPk : (39 : TypeId) < Try.prog.types.size := of_decide_eq_true (by kernel_rfl)
theorem widePk : (match Try.prog.underlying 39 with | some (.array _ _) | some (.struct _) => true | _ => false) = true := by kernel_rfl
theorem lawP : Keyed Try.prog 39 := Keyed.of_law (deep_law_laid laidOut (m := 3) (by omega) rowPk (by kernel_rfl) widePk)
theorem zeroM (w : World) : (zeroValue 4).run Try.prog w = .ok (.bool false) w := by kernel_rfl
theorem typePk : Try.prog.keyType 39 = true := by kernel_rfl
theorem depthPk : ∃ d, Try.prog.types.size + 1 = d + 2 := ⟨Try.prog.types.size - 1, by have : 1 ≤ Try.prog.types.size := of_decide_eq_true (by kernel_rfl); omega⟩
theorem key_pkt (p : Pkt) (h : okP p) (hs : p.2.2.size ≤ 1000) : ∃ l, keyOf Try.prog 39 (pv p) = some l := by
  obtain ⟨f0, f1, f2, hu, e0, e1, e2⟩ := fieldsP
  simp only [Prod.mk.injEq] at e0 e1 e2
  obtain ⟨dd, hd⟩ := depthPk
  have hm : p.2.2.size ≤ maxLen := by unfold maxLen; omega
  have hn : (#[f0, f1, f2] : Array Field).all (·.name != "_") = true := by
    have : ((Try.prog.underlying 39).map fun d => match d with | .struct fs => fs.all (·.name != "_") | _ => false) = some true := by kernel_rfl
    rw [hu] at this
    simpa using this
  have hf : (pv p).formed Try.prog 39 = true := by simp [pv, Value.formed, hu, cellsP]
  have k0 : Try.prog.keyLits (dd + 1) 3 [.int .i64 p.1] = some [.int .i64 p.1] := by simp [Program.keyLits, Try.underlying3, h.1]
  have k1 : Try.prog.keyLits (dd + 1) 3 [.int .i64 p.2.1] = some [.int .i64 p.2.1] := by simp [Program.keyLits, Try.underlying3, h.2]
  have k2 : Try.prog.keyLits (dd + 1) 9 [.string p.2.2] = some [.string p.2.2.data.toList] := by simp [Program.keyLits, Try.underlying9, hm]
  have hl : Try.prog.keyLits (Try.prog.types.size + 1) 39 [.int .i64 p.1, .int .i64 p.2.1, .string p.2.2] = some [.int .i64 p.1, .int .i64 p.2.1, .string p.2.2.data.toList] := by
    rw [hd]
    show Try.prog.keyLits ((dd + 1) + 1) _ _ = _
    unfold Program.keyLits
    simp only [hu]
    rw [if_pos ⟨by rw [cellsP]; rfl, hn⟩]
    simp [e0.1, e0.2, e1.1, e1.2, e2.1, e2.2, cellsK, cellsS, k0, k1, k2]
  unfold keyOf
  rw [hu]
  simp only [typePk, hf, Bool.and_self, if_true]
  exact ⟨_, congrArg (Option.map _) hl⟩
/-- In block b lies a map of at most n keys, true at each of these packets. -/
def Km (w : World) (b n : Nat) (K : Pkt → Prop) : Prop := ∃ D : DataW Unit, w.ownsMap Try.prog 39 (plainElem (H := Unit) Try.prog 4) b n D ∧ ∀ p, K p → ∃ kl, keyOf Try.prog 39 (pv p) = some kl ∧ D.atKey kl (.lit (.bool false)) = .lit (.bool true)
theorem km_new (w : World) : Km (w.alloc (.map #[] 0)) w.heap.size 0 (fun _ => False) := ⟨_, World.ownsMap_made w Try.prog _ _, fun _ h => h.elim⟩
section
variable {w w' : World} {b n : Nat} {K : Pkt → Prop}
theorem Km.obj (h : Km w b n K) : ∃ es clock, w.heap[b]? = some (.map es clock) := by obtain ⟨D, ⟨es, clock, h, _⟩, _⟩ := h; exact ⟨es, clock, h⟩
theorem Km.lt (h : Km w b n K) : b < w.heap.size := by obtain ⟨es, clock, h⟩ := h.obj; exact (Array.getElem?_eq_some_iff.1 h).1
theorem Km.same (h : Km w b n K) (e : w'.heap[b]? = w.heap[b]?) : Km w' b n K := by
  obtain ⟨D, ⟨es, clock, h1, r⟩, h2⟩ := h
  exact ⟨D, ⟨es, clock, e.trans h1, r⟩, h2⟩
theorem Km.next (h : Km w b n K) (hb : Below w.heap.size w w') : Km w' b n K := h.same (hb.block b h.lt)
theorem Km.bkw {B : Nat} (h : Km w b n K) (hb : BkW B w w') : Km w' b n K := by
  obtain ⟨es, clock, ho⟩ := h.obj
  exact h.same ((hb.oth b _ ho (fun _ _ e => by cases e) (fun _ _ e => by cases e)).trans ho.symm)
theorem Km.weak (h : Km w b n K) {K' : Pkt → Prop} (hk : ∀ p, K' p → K p) {n' : Nat} (hn : n ≤ n') : Km w b n' K' := by
  obtain ⟨D, h1, h2⟩ := h
  exact ⟨D, h1.mono hn, fun p hp => h2 p (hk p hp)⟩
theorem Km.look (h : Km w b n K) {p : Pkt} (hp : K p) : (Instr.lookup 43 (.map (some b)) (pv p) false).run Try.prog w = .ok (.bool true) w := by
  obtain ⟨D, h1, h2⟩ := h
  obtain ⟨kl, hk, ha⟩ := h2 p hp
  obtain ⟨v, ps, hrun, hv⟩ := h1.lookup lawP Try.underlying43 (zeroM w) (plainElem_bool Try.underlying4 false) hk
  rw [ha] at hv
  rw [hrun]
  have e : v = .bool true := by
    unfold plainElem at hv
    rw [Try.underlying4] at hv
    cases v <;> simp at hv
    obtain ⟨h, _⟩ := hv
    rw [h]
  rw [e]
theorem Km.put (h : Km w b n K) (hn : n ≤ 100000) (p : Pkt) (hp : okP p) (hs : p.2.2.size ≤ 1000) : ∃ w', (Instr.mapUpdate 43 (.map (some b)) (pv p) (.bool true)).run Try.prog w = .ok () w' ∧ Km w' b (n + 1) (fun q => K q ∨ q = p) ∧ w.grownBy w' (some b) := by
  obtain ⟨D, h1, h2⟩ := h
  obtain ⟨kp, hkp⟩ := key_pkt p hp hs
  obtain ⟨w', hrun, r1, r2⟩ := h1.update lawP Try.underlying43 (by unfold maxLen; omega) hkp (plainElem_bool Try.underlying4 true)
  have hD := h1.isMap
  have hkey := lawP.key hkp
  refine ⟨w', hrun, ⟨_, r1, fun q hq => ?_⟩, r2⟩
  rcases hq with hq | rfl
  · obtain ⟨kl, hk, ha⟩ := h2 q hq
    refine ⟨kl, hk, ?_⟩
    by_cases e : kl = kp
    · rw [e, Maps.atKey_put_same hD hkey]
    · rw [Maps.atKey_put_other e]; exact ha
  · exact ⟨kp, hkp, Maps.atKey_put_same hD hkey _ _⟩
end
/-- The law's map may turn beside the bag. -/
theorem Ck.mapped {B b mb : Nat} {l : List Pk} {w w' : World} (h : Ck B w b l) (hg : w.grownBy w' (some mb)) (hm : ∃ es clock, w.heap[mb]? = some (.map es clock)) : Ck B w' b l := by
  obtain ⟨v, h⟩ := h
  obtain ⟨es, clock, hm⟩ := hm
  refine ⟨v, h.same (hg.block b h.lt (fun e => ?_)) (fun j hj => hg.block j (h.row.lt j hj).2 (fun e => ?_))⟩
  · cases e
    have := h.blk
    rw [hm] at this
    cases this
  · cases e
    obtain ⟨cur, hc⟩ := h.row.typ _ hj
    rw [hm] at hc
    cases hc
end Go.Proofs.Ytjnjpphbclepbaa
