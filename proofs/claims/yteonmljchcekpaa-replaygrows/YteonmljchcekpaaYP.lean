/- What is played is short. -/
import Derived.Test.YteonmljchcekpaaY1
namespace Go.Proofs.Yteonmljchcekpaa
open Go Go.RowKit
set_option maxRecDepth 20000
/-- What is played is short: the updates of rounds, and the open ones. -/
structure Pl (us : List Up) (rs : List Rn) : Prop where
  sh : ∀ u ∈ flatR rs ++ us, u.1.size ≤ 1000 ∧ Sh u.2.2.2
  len : (flatR rs ++ us).length ≤ 1000
  lr : rs.length ≤ 1000
theorem Pl.us {us : List Up} {rs : List Rn} (h : Pl us rs) : (∀ u ∈ us, u.1.size ≤ 1000 ∧ Sh u.2.2.2) ∧ us.length ≤ 1000 :=
  ⟨fun u hu => h.sh u (List.mem_append_right _ hu), by have := h.len; rw [List.length_append] at this; omega⟩
theorem flatR_split (rs : List Rn) (k : Nat) : flatR rs = flatR (rs.take k) ++ flatR (rs.drop k) := by rw [← flatR_app, List.take_append_drop]
theorem Pl.at {us : List Up} {rs : List Rn} (h : Pl us rs) {k : Nat} (hk : k < rs.length) : (∀ u ∈ (rs.getD k rn0).us, u.1.size ≤ 1000 ∧ Sh u.2.2.2) ∧ (flatR (rs.take k)).length + (rs.getD k rn0).us.length ≤ 1000 := by
  refine ⟨fun u hu => h.sh u (List.mem_append_left _ (mem_flat (rn_mem hk) hu)), ?_⟩
  have h1 := h.len
  rw [List.length_append, flatR_split rs (k + 1), flatR_take rs k hk, List.length_append, List.length_append] at h1
  omega
theorem Pl.taken {us : List Up} {rs : List Rn} (h : Pl us rs) (k : Nat) : ∀ u ∈ flatR (rs.take k), Sh u.2.2.2 := fun u hu =>
  (h.sh u (List.mem_append_left _ (by rw [flatR_split rs k]; exact List.mem_append_left _ hu))).2
end Go.Proofs.Yteonmljchcekpaa
