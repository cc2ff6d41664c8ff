/- Plain: rounds, what is read behind them, which keys they touch. -/
import Derived.Test.YteonmljchcekpaaS0
namespace Go.Proofs.Yteonmljchcekpaa
open Go Go.RowKit
/-- A round: its origin, its number, where its updates lie, and its updates. -/
structure Rn where
  o : Int
  n : Int
  a : Option Addr
  len : Nat
  cap : Nat
  us : List Up
def rn0 : Rn := ⟨0, 0, none, 0, 0, []⟩
def rv (r : Rn) : Value := .agg #[.int .i64 r.o, .int .i64 r.n, .slice r.a r.len r.cap]
/-- The updates of rounds, one behind the other. -/
def flatR (rs : List Rn) : List Up := rs.flatMap (·.us)
theorem flatR_app (rs ts : List Rn) : flatR (rs ++ ts) = flatR rs ++ flatR ts := by simp [flatR]
theorem flatR_snoc (rs : List Rn) (r : Rn) : flatR (rs ++ [r]) = flatR rs ++ r.us := by simp [flatR]
theorem take_snoc (rs : List Rn) (k : Nat) (h : k < rs.length) : rs.take (k + 1) = rs.take k ++ [rs.getD k rn0] := by
  rw [List.take_add_one]; simp [List.getD_eq_getElem?_getD, h]
theorem flatR_take (rs : List Rn) (k : Nat) (h : k < rs.length) : flatR (rs.take (k + 1)) = flatR (rs.take k) ++ (rs.getD k rn0).us := by
  rw [take_snoc rs k h, flatR_snoc]
theorem mem_flat {rs : List Rn} {r : Rn} (h : r ∈ rs) {u : Up} (hu : u ∈ r.us) : u ∈ flatR rs := List.mem_flatMap.2 ⟨r, h, hu⟩
theorem rn_mem {rs : List Rn} {k : Nat} (h : k < rs.length) : rs.getD k rn0 ∈ rs := by
  have e : rs.getD k rn0 = rs[k] := by simp [List.getD_eq_getElem?_getD, h]
  rw [e]; exact List.getElem_mem _
theorem flatR_len (rs : List Rn) (c : Nat) (h : ∀ r ∈ rs, r.us.length ≤ c) : (flatR rs).length ≤ rs.length * c := by
  induction rs with
  | nil => simp [flatR]
  | cons r rs ih =>
    have h1 := ih fun x hx => h x (List.mem_cons_of_mem _ hx)
    have h2 := h r List.mem_cons_self
    have e : flatR (r :: rs) = r.us ++ flatR rs := rfl
    rw [e, List.length_append, List.length_cons, Nat.succ_mul]
    omega
/-- What a key's updates that may be make of its value. -/
def madeK (v : Vl) (key : ByteArray) (us : List Up) : Vl := us.foldl (fun v u => if u.1 = key ∧ mayE u = 0 then oneV v u else v) v
theorem madeK_app (v : Vl) (key : ByteArray) (us vs : List Up) : madeK v key (us ++ vs) = madeK (madeK v key us) key vs := by simp [madeK, List.foldl_append]
theorem madeK_take (v : Vl) (key : ByteArray) (us : List Up) (k : Nat) (h : k < us.length) (d : Up) : madeK v key (us.take (k + 1)) = if (us.getD k d).1 = key ∧ mayE (us.getD k d) = 0 then oneV (madeK v key (us.take k)) (us.getD k d) else madeK v key (us.take k) := by
  unfold madeK
  rw [List.take_add_one, List.foldl_append]
  simp [List.getD_eq_getElem?_getD, h]
theorem fold_made (key : ByteArray) (us : List Up) : ∀ f : Fn, us.foldl doF f (ky key) = madeK (f (ky key)) key us := by
  induction us with
  | nil => exact fun f => rfl
  | cons u us ih =>
    intro f
    rw [List.foldl_cons, ih]
    have e : doF f u (ky key) = if u.1 = key ∧ mayE u = 0 then oneV (f (ky key)) u else f (ky key) := by
      unfold doF
      by_cases hk : u.1 = key
      · subst hk; simp
      · have : ¬ ky key = ky u.1 := fun x => hk (ky_inj x).symm
        simp [hk, this]
    rw [e]; rfl
theorem read_eq (key : ByteArray) (us : List Up) : madeK noneV key us = stF us (ky key) := (fold_made key us f0).symm
theorem madeK_sh (key : ByteArray) (us : List Up) (hu : ∀ u ∈ us, Sh u.2.2.2) : ∀ v : Vl, Sh v.2.2 → Sh (madeK v key us).2.2 := by
  induction us with
  | nil => exact fun v h => h
  | cons u us ih =>
    intro v h
    have e : madeK v key (u :: us) = madeK (if u.1 = key ∧ mayE u = 0 then oneV v u else v) key us := rfl
    rw [e]
    refine ih (fun x hx => hu x (List.mem_cons_of_mem _ hx)) _ ?_
    split
    · exact one_sh _ _ h (hu u List.mem_cons_self)
    · exact h
theorem sh_none : Sh noneV.2.2 := by show (0 : Nat) ≤ _; omega
/-- Is a key touched? -/
def Tou (us : List Up) (x : Ky) : Prop := ∃ u ∈ us, mayE u = 0 ∧ ky u.1 = x
/-- The keys that updates touch, rising. -/
def TouL (us : List Up) (ss : List Ky) : Prop := ss.Pairwise (fun a b => a < b) ∧ ∀ x, x ∈ ss ↔ Tou us x
theorem TouL.eq {us : List Up} {ss ts : List Ky} (h : TouL us ss) (k : TouL us ts) : ss = ts := sorted_eq h.1 k.1 fun x => (h.2 x).trans (k.2 x).symm
/-- The keys that updates touch, as they came. -/
def TouC (us : List Up) (ks : List Ky) : Prop := ks.Nodup ∧ ∀ x, x ∈ ks ↔ Tou us x
theorem tou_snoc {us : List Up} {u : Up} {x : Ky} : Tou (us ++ [u]) x ↔ Tou us x ∨ (mayE u = 0 ∧ ky u.1 = x) := by
  unfold Tou
  constructor
  · rintro ⟨v, hv, h⟩
    rcases List.mem_append.1 hv with hv | hv
    · exact .inl ⟨v, hv, h⟩
    · obtain rfl := List.mem_singleton.1 hv
      exact .inr h
  · rintro (⟨v, hv, h⟩ | h)
    · exact ⟨v, List.mem_append_left _ hv, h⟩
    · exact ⟨u, List.mem_append_right _ List.mem_cons_self, h⟩
theorem touC_start : TouC [] [] := ⟨List.nodup_nil, fun x => ⟨fun h => (by cases h), fun ⟨_, h, _⟩ => (by cases h)⟩⟩
theorem touC_no {us : List Up} {ks : List Ky} {u : Up} (h : TouC us ks) (hm : ¬ mayE u = 0) : TouC (us ++ [u]) ks :=
  ⟨h.1, fun x => (h.2 x).trans ⟨fun y => tou_snoc.2 (.inl y), fun y => (tou_snoc.1 y).elim id fun z => absurd z.1 hm⟩⟩
theorem touC_there {us : List Up} {ks : List Ky} {u : Up} (h : TouC us ks) (hk : ky u.1 ∈ ks) : TouC (us ++ [u]) ks :=
  ⟨h.1, fun x => (h.2 x).trans ⟨fun y => tou_snoc.2 (.inl y), fun y => (tou_snoc.1 y).elim id fun z => (h.2 x).1 (z.2 ▸ hk)⟩⟩
theorem touC_new {us : List Up} {ks : List Ky} {u : Up} (h : TouC us ks) (hm : mayE u = 0) (hk : ¬ ky u.1 ∈ ks) : TouC (us ++ [u]) (ks ++ [ky u.1]) := by
  refine ⟨List.nodup_append.2 ⟨h.1, by simp, fun a ha b hb => ?_⟩, fun x => ?_⟩
  · obtain rfl := List.mem_singleton.1 hb
    exact fun e => hk (e ▸ ha)
  · rw [List.mem_append, h.2 x, tou_snoc, List.mem_singleton]
    exact ⟨fun y => y.elim .inl fun z => .inr ⟨hm, z.symm⟩, fun y => y.elim .inl fun z => .inr z.2.symm⟩
theorem sort_lt {ks : List Ky} (h : ks.Nodup) : (ks.mergeSort fun x y => decide (x ≤ y)).Pairwise (fun a b => a < b) := by
  have tr : ∀ a b c : Ky, decide (a ≤ b) = true → decide (b ≤ c) = true → decide (a ≤ c) = true := fun a b c h1 h2 => by simp only [decide_eq_true_eq] at *; exact List.le_trans h1 h2
  have to : ∀ a b : Ky, (decide (a ≤ b) || decide (b ≤ a)) = true := fun a b => by simp only [Bool.or_eq_true, decide_eq_true_eq]; exact List.le_total a b
  have hpm := List.mergeSort_perm ks fun x y => decide (x ≤ y)
  have hnd2 := hpm.nodup_iff.2 h
  have hs := List.pairwise_mergeSort tr to ks
  refine (hs.and hnd2).imp fun {a b} hab => ?_
  have h1 : a ≤ b := by simpa using hab.1
  exact Classical.byContradiction fun hx => absurd (List.le_antisymm h1 hx) hab.2
theorem touC_sort {us : List Up} {ks : List Ky} (h : TouC us ks) : TouL us (ks.mergeSort fun x y => decide (x ≤ y)) :=
  ⟨sort_lt h.1, fun x => ((List.mergeSort_perm ks fun x y => decide (x ≤ y)).mem_iff).trans (h.2 x)⟩
theorem touC_ex (us : List Up) : ∃ ks, TouC us ks := by
  have h : ∀ k, ∃ ks, TouC (us.take k) ks := fun k => by
    induction k with
    | zero => exact ⟨[], touC_start⟩
    | succ k ih =>
      obtain ⟨ks, h⟩ := ih
      by_cases hk : k < us.length
      · have e : us.take (k + 1) = us.take k ++ [us[k]] := by rw [List.take_add_one]; simp [hk]
        rw [e]
        by_cases hm : mayE us[k] = 0
        · by_cases hi : ky us[k].1 ∈ ks
          · exact ⟨ks, touC_there h hi⟩
          · exact ⟨_, touC_new h hm hi⟩
        · exact ⟨ks, touC_no h hm⟩
      · rw [List.take_of_length_le (by omega)]
        rw [List.take_of_length_le (by omega)] at h
        exact ⟨ks, h⟩
  have := h us.length
  rwa [List.take_length] at this
theorem touL_ex (us : List Up) : ∃ ss, TouL us ss := by
  obtain ⟨ks, h⟩ := touC_ex us
  exact ⟨_, touC_sort h⟩
theorem untouched (us : List Up) (key : ByteArray) (h : ¬ Tou us (ky key)) : ∀ v : Vl, madeK v key us = v := by
  induction us with
  | nil => exact fun v => rfl
  | cons u us ih =>
    intro v
    have e : madeK v key (u :: us) = madeK (if u.1 = key ∧ mayE u = 0 then oneV v u else v) key us := rfl
    have e1 : ¬ (u.1 = key ∧ mayE u = 0) := fun x => h ⟨u, List.mem_cons_self, x.2, by rw [x.1]⟩
    rw [e, if_neg e1]
    exact ih (fun ⟨w, hw, hx⟩ => h ⟨w, List.mem_cons_of_mem _ hw, hx⟩) v
open Classical in
/-- The rounds that touch a key. -/
noncomputable def ownR (key : ByteArray) (rs : List Rn) : List Rn := rs.filter fun r => decide (Tou r.us (ky key))
theorem ownR_nil (key : ByteArray) : ownR key [] = [] := rfl
theorem ownR_yes {key : ByteArray} {rs : List Rn} {r : Rn} (h : Tou r.us (ky key)) : ownR key (rs ++ [r]) = ownR key rs ++ [r] := by simp [ownR, h]
theorem ownR_no {key : ByteArray} {rs : List Rn} {r : Rn} (h : ¬ Tou r.us (ky key)) : ownR key (rs ++ [r]) = ownR key rs := by simp [ownR, h]
theorem ownR_mem {key : ByteArray} {rs : List Rn} {r : Rn} (h : r ∈ ownR key rs) : r ∈ rs := (List.mem_filter.1 h).1
theorem ownR_len (key : ByteArray) (rs : List Rn) : (ownR key rs).length ≤ rs.length := List.length_filter_le _ _
theorem ownR_read (key : ByteArray) (rs : List Rn) : ∀ v : Vl, madeK v key (flatR (ownR key rs)) = madeK v key (flatR rs) := by
  induction rs with
  | nil => exact fun v => rfl
  | cons r rs ih =>
    intro v
    have e : flatR (r :: rs) = r.us ++ flatR rs := rfl
    by_cases h : Tou r.us (ky key)
    · have e1 : ownR key (r :: rs) = r :: ownR key rs := by simp [ownR, h]
      have e2 : flatR (r :: ownR key rs) = r.us ++ flatR (ownR key rs) := rfl
      rw [e1, e2, e, madeK_app, madeK_app, ih]
    · have e1 : ownR key (r :: rs) = ownR key rs := by simp [ownR, h]
      rw [e1, e, madeK_app, untouched _ _ h, ih]
theorem own_read (key : ByteArray) (rs : List Rn) : stF (flatR (ownR key rs)) (ky key) = stF (flatR rs) (ky key) := by
  rw [← read_eq, ← read_eq, ownR_read]
theorem own_none (key : ByteArray) (rs : List Rn) (h : (ownR key rs).length = 0) : stF (flatR rs) (ky key) = noneV := by
  rw [← own_read, List.length_eq_zero_iff.1 h]; rfl
theorem nub_ex (xs : List Ky) : ∃ ys : List Ky, ys.Nodup ∧ (∀ x, x ∈ ys ↔ x ∈ xs) ∧ ys.length ≤ xs.length := by
  induction xs with
  | nil => exact ⟨[], List.nodup_nil, fun x => Iff.rfl, Nat.le_refl _⟩
  | cons a xs ih =>
    obtain ⟨ys, h1, h2, h3⟩ := ih
    by_cases h : a ∈ ys
    · refine ⟨ys, h1, fun x => ?_, by simp; omega⟩
      rw [List.mem_cons, h2 x]
      exact ⟨.inr, fun y => y.elim (fun e => by subst e; exact (h2 _).1 h) id⟩
    · refine ⟨a :: ys, List.nodup_cons.2 ⟨h, h1⟩, fun x => ?_, by simp; omega⟩
      rw [List.mem_cons, List.mem_cons, h2 x]
theorem has_key {us : List Up} {x : Ky} (h : (stF us x).1 ≠ 0) : x ∈ us.map fun u => ky u.1 := by
  refine Classical.byContradiction fun hn => h ?_
  rw [stF_at]
  have e : (us.filter fun u => decide (ky u.1 = x)) = [] := by
    rw [List.filter_eq_nil_iff]
    intro u hu hx
    exact hn (List.mem_map.2 ⟨u, hu, by simpa using hx⟩)
  rw [e]; rfl
theorem keyL_ex (us : List Up) : ∃ ss, KeyL (stF us) ss ∧ ss.length ≤ us.length := by
  obtain ⟨ys, h1, h2, h3⟩ := nub_ex (us.map fun u => ky u.1)
  let zs := ys.filter fun x => decide ((stF us x).1 ≠ 0)
  have hz : zs.Nodup := h1.filter _
  refine ⟨zs.mergeSort fun x y => decide (x ≤ y), ⟨sort_lt hz, fun x => ?_⟩, ?_⟩
  · rw [(List.mergeSort_perm zs fun x y => decide (x ≤ y)).mem_iff, List.mem_filter, h2 x]
    constructor
    · exact fun y => by simpa using y.2
    · exact fun y => ⟨has_key y, by simpa using y⟩
  · rw [List.length_mergeSort]
    have := List.length_filter_le (fun x => decide ((stF us x).1 ≠ 0)) ys
    rw [List.length_map] at h3
    show (ys.filter _).length ≤ _
    omega
end Go.Proofs.Yteonmljchcekpaa
