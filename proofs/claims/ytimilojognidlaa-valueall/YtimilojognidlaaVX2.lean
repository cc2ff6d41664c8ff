/- A row of updates appended to nothing, as a step of a region that draws. -/
import Derived.Test.YtimilojognidlaaV9
import Derived.Deep.RegionLawGrows
namespace Go.Proofs.Ytimilojognidlaa
open Go Go.RowKit
/-- The cells of updates, one behind the other. -/
def cellU (u : Up) : Nat → Value
  | 0 => .string u.1
  | 1 => .int .i64 u.2.1
  | 2 => .int .i64 u.2.2.1
  | _ => .string u.2.2.2
def flatU (us : List Up) : List Value := (List.range (us.length * 4)).map fun j => cellU (us.getD (j / 4) up0) (j % 4)
theorem flatU_len (us : List Up) : (flatU us).length = us.length * 4 := by simp [flatU]
theorem flatU_get (us : List Up) (j : Nat) (h : j < us.length * 4) : (flatU us)[j]? = some (cellU (us.getD (j / 4) up0) (j % 4)) := by simp [flatU, h]
theorem Us.flat {w : World} {b off : Nat} {us : List Up} (h : Us w b off us) (j : Nat) (hj : j < us.length * 4) : w.cell? ⟨b, off + j, none⟩ = some (cellU (us.getD (j / 4) up0) (j % 4)) := by
  have hi : j / 4 < us.length := by omega
  have e : off + j = off + j / 4 * 4 + j % 4 := by omega
  rcases (show j % 4 = 0 ∨ j % 4 = 1 ∨ j % 4 = 2 ∨ j % 4 = 3 by omega) with h0 | h0 | h0 | h0
  · rw [e, h0]; exact h.key _ hi
  · rw [e, h0]; exact h.k _ hi
  · rw [e, h0]; exact h.n _ hi
  · rw [e, h0]; exact h.t _ hi
theorem Us.of_flat {w : World} {b : Nat} {us : List Up} (h : ∀ j, j < us.length * 4 → w.cell? ⟨b, 0 + j, none⟩ = some (cellU (us.getD (j / 4) up0) (j % 4))) : Us w b 0 us := by
  have g : ∀ i r, i < us.length → r < 4 → w.cell? ⟨b, 0 + (i * 4 + r), none⟩ = some (cellU (us.getD i up0) r) := by
    intro i r hi hr
    have := h (i * 4 + r) (by omega)
    rw [show (i * 4 + r) / 4 = i by omega, show (i * 4 + r) % 4 = r by omega] at this
    exact this
  refine ⟨fun i hi => ?_, fun i hi => ?_, fun i hi => ?_, fun i hi => ?_⟩
  · exact g i 0 hi (by omega)
  · exact g i 1 hi (by omega)
  · exact g i 2 hi (by omega)
  · exact g i 3 hi (by omega)
theorem infoU : ∃ i z, Try.prog.info? 25 = some i ∧ i.zero = some z ∧ i.size = 4 ∧ i.bytes = 48 ∧ z.cells.size = 4 := by
  have h1 : (Try.prog.info? 25).map (fun i => (i.size, i.bytes)) = some (4, 48) := by kernel_rfl
  have h2 : ((Try.prog.info? 25).bind (·.zero)).map (fun z => z.cells.size) = some 4 := by kernel_rfl
  cases h : Try.prog.info? 25 with
  | none => rw [h] at h1; cases h1
  | some i =>
    rw [h] at h1 h2
    simp at h1 h2
    obtain ⟨z, hz, hs⟩ := h2
    exact ⟨i, z, rfl, hz, h1.1, h1.2, hs⟩
theorem cellU_one (u : Up) (r : Nat) : (cellU u r).oneCell' = true := by
  unfold cellU; split <;> rfl
theorem step_app {ops : Array Oper} {o : Oper} {a : Act} {w : World} {K : Act → World → Prop} {Q : Exit → Act → World → Prop} {E : Prop}
    (hg : o.guard = none) (s x : Operand) (hop : o.op = Op.call { callee := Callee.builtin Builtin.append, args := #[s, x], argTypes := #[34, 34] })
    (h0 : Nat) (hs : a.eval s = .slice (some ⟨h0, 0, none⟩) 0 0) (b off len c : Nat) (hx : a.eval x = .slice (some ⟨b, off, none⟩) len c) (us : List Up) (hu : IsUs w (some ⟨b, off, none⟩) len us) (hp : 0 < len) (hl : len ≤ 200)
    (hK : ∀ g c' w', IsUs w' (some ⟨g, 0, none⟩) len us → Below w.heap.size w w' → K (a.put o.dst (.slice (some ⟨g, 0, none⟩) len c')) w') :
    if Region.wanted o (yielded ops a.tmps) = true then Oper.wp Try.prog o a w K Q else E := by
  obtain ⟨i, z, hi, hz, hsz, hby, hzs⟩ := infoU
  obtain ⟨b', off', e, hf⟩ := hu.lies hp
  cases e
  have hlen := hu.size
  refine step_append_grows hg s x 34 hop 25 i z 4 48 Try.underlying34 hi hz hsz hby hzs (by decide) (some ⟨h0, 0, none⟩) 0 0 [] hs (by simp) rfl (by simp) ⟨b, off, none⟩ len c (flatU us) hx (by rw [flatU_len, hlen]) ?_ ?_ (by omega) (by unfold maxLen; omega) (by omega) ?_
  · intro j u hj
    have hjl : j < us.length * 4 := by
      have := (List.getElem?_eq_some_iff.1 hj).1
      rw [flatU_len] at this; exact this
    rw [flatU_get us j hjl] at hj
    rw [Go.WideShapes.add_plain]
    rw [hf.flat j hjl, hj]
  · intro u hu'
    simp [flatU] at hu'
    obtain ⟨j, _, rfl⟩ := hu'
    exact cellU_one _ _
  · intro v' w' hown hgrow
    rw [Nat.zero_add] at hown
    rcases hown.2 with ⟨_, h00⟩ | ⟨g, cap, cur, rfl, _, hblk, _, _, hcs, htake⟩
    · omega
    refine hK g cap w' ⟨hlen, fun _ => ⟨g, 0, rfl, Us.of_flat fun j hj => ?_⟩⟩ ⟨hgrow.os, hgrow.tape, hgrow.output, hgrow.size, fun k hk => hgrow.block k hk (by simp)⟩
    have hget : cur[j]? = some (cellU (us.getD (j / 4) up0) (j % 4)) := by
      have e1 : (cur.toList.take (len * 4))[j]? = some (cellU (us.getD (j / 4) up0) (j % 4)) := by
        rw [htake, List.nil_append, flatU_get us j hj]
      rw [List.getElem?_take] at e1
      split at e1
      · simpa using e1
      · cases e1
    have := cell_at hblk j _ hget
    rw [Nat.zero_add]; exact this
end Go.Proofs.Ytimilojognidlaa
