import Derived.Test.YtbbgibekplfacaaDoorI3
import Derived.Test.YtbbgibekplfacaaDoorT2
/- Plain: rounds, what is read behind them, which keys they touch. -/
namespace Go.Proofs.YtbbgibekplfacaaDoor.Y
open Go Go.RowKit
/-- The updates of rounds, one behind the other. -/
def flatR (rs : List Rn) : List Up := rs.flatMap (·.us)
theorem flatR_app (rs ts : List Rn) : flatR (rs ++ ts) = flatR rs ++ flatR ts := by simp [flatR]
theorem flatR_snoc (rs : List Rn) (r : Rn) : flatR (rs ++ [r]) = flatR rs ++ r.us := by simp [flatR]
theorem flatR_take (rs : List Rn) (k : Nat) (h : k < rs.length) : flatR (rs.take (k + 1)) = flatR (rs.take k) ++ (rs.getD k rn0).us := by
  rw [take_snoc rs k h, flatR_snoc]
theorem mem_flat {rs : List Rn} {r : Rn} (h : r ∈ rs) {u : Up} (hu : u ∈ r.us) : u ∈ flatR rs := List.mem_flatMap.2 ⟨r, h, hu⟩
theorem flatR_len (rs : List Rn) (c : Nat) (h : ∀ r ∈ rs, r.us.length ≤ c) : (flatR rs).length ≤ rs.length * c := by
  induction rs with
  | nil => simp [flatR]
  | cons r rs ih =>
    have h1 := ih fun x hx => h x (List.mem_cons_of_mem _ hx)
    have h2 := h r List.mem_cons_self
    have e : flatR (r :: rs) = r.us ++ flatR rs := rfl
    rw [e, List.length_append, List.length_cons, Nat.succ_mul]
    omega
/-- What a key's updates that may be make of its value. -/
def madeK (v : Vl) (key : ByteArray) (us : List Up) : Vl := us.foldl (fun v u => if u.1 = key ∧ mayE u = 0 then oneV v u else v) v
theorem madeK_app (v : Vl) (key : ByteArray) (us vs : List Up) : madeK v key (us ++ vs) = madeK (madeK v key us) key vs := by simp [madeK, List.foldl_append]
theorem madeK_take (v : Vl) (key : ByteArray) (us : List Up) (k : Nat) (h : k < us.length) (d : Up) : madeK v key (us.take (k + 1)) = if (us.getD k d).1 = key ∧ mayE (us.getD k d) = 0 then oneV (madeK v key (us.take k)) (us.getD k d) else madeK v key (us.take k) := by
  unfold madeK
  rw [List.take_add_one, List.foldl_append]
  simp [List.getD_eq_getElem?_getD, h]
theorem fold_made (key : ByteArray) (us : List Up) : ∀ f : Fn, us.foldl doF f (ky key) = madeK (f (ky key)) key us := by
  induction us with
  | nil => exact fun f => rfl
  | cons u us ih =>
    intro f
    rw [List.foldl_cons, ih]
    have e : doF f u (ky key) = if u.1 = key ∧ mayE u = 0 then oneV (f (ky key)) u else f (ky key) := by
      unfold doF
      by_cases hk : u.1 = key
      · subst hk; simp
      · have : ¬ ky key = ky u.1 := fun x => hk (ky_inj x).symm
        simp [hk, this]
    rw [e]; rfl
theorem read_eq (key : ByteArray) (us : List Up) : madeK noneV key us = stF us (ky key) := (fold_made key us f0).symm
theorem madeK_sh (key : ByteArray) (us : List Up) (hu : ∀ u ∈ us, Sh u.2.2.2) : ∀ v : Vl, Sh v.2.2 → Sh (madeK v key us).2.2 := by
  induction us with
  | nil => exact fun v h => h
  | cons u us ih =>
    intro v h
    have e : madeK v key (u :: us) = madeK (if u.1 = key ∧ mayE u = 0 then oneV v u else v) key us := rfl
    rw [e]
    refine ih (fun x hx => hu x (List.mem_cons_of_mem _ hx)) _ ?_
    split
    · exact one_sh _ _ h (hu u List.mem_cons_self)
    · exact h
theorem sh_none : Sh noneV.2.2 := by show (0 : Nat) ≤ _; omega
/-- Is a key touched? -/
def Tou (us : List Up) (x : Ky) : Prop := ∃ u ∈ us, mayE u = 0 ∧ ky u.1 = x
/-- The keys that updates touch, rising. -/
def TouL (us : List Up) (ss : List Ky) : Prop := ss.Pairwise (fun a b => a < b) ∧ ∀ x, x ∈ ss ↔ Tou us x
theorem TouL.eq {us : List Up} {ss ts : List Ky} (h : TouL us ss) (k : TouL us ts) : ss = ts := sorted_eq h.1 k.1 fun x => (h.2 x).trans (k.2 x).symm
/-- The keys that updates touch, as they came. -/
def TouC (us : List Up) (ks : List Ky) : Prop := ks.Nodup ∧ ∀ x, x ∈ ks ↔ Tou us x
theorem tou_snoc {us : List Up} {u : Up} {x : Ky} : Tou (us ++ [u]) x ↔ Tou us x ∨ (mayE u = 0 ∧ ky u.1 = x) := by
  unfold Tou
  constructor
  · rintro ⟨v, hv, h⟩
    rcases List.mem_append.1 hv with hv | hv
    · exact .inl ⟨v, hv, h⟩
    · obtain rfl := List.mem_singleton.1 hv
      exact .inr h
  · rintro (⟨v, hv, h⟩ | h)
    · exact ⟨v, List.mem_append_left _ hv, h⟩
    · exact ⟨u, List.mem_append_right _ List.mem_cons_self, h⟩
theorem touC_start : TouC [] [] := ⟨List.nodup_nil, fun x => ⟨fun h => (by cases h), fun ⟨_, h, _⟩ => (by cases h)⟩⟩
theorem touC_no {us : List Up} {ks : List Ky} {u : Up} (h : TouC us ks) (hm : ¬ mayE u = 0) : TouC (us ++ [u]) ks :=
  ⟨h.1, fun x => (h.2 x).trans ⟨fun y => tou_snoc.2 (.inl y), fun y => (tou_snoc.1 y).elim id fun z => absurd z.1 hm⟩⟩
theorem touC_there {us : List Up} {ks : List Ky} {u : Up} (h : TouC us ks) (hk : ky u.1 ∈ ks) : TouC (us ++ [u]) ks :=
  ⟨h.1, fun x => (h.2 x).trans ⟨fun y => tou_snoc.2 (.inl y), fun y => (tou_snoc.1 y).elim id fun z => (h.2 x).1 (z.2 ▸ hk)⟩⟩
theorem touC_new {us : List Up} {ks : List Ky} {u : Up} (h : TouC us ks) (hm : mayE u = 0) (hk : ¬ ky u.1 ∈ ks) : TouC (us ++ [u]) (ks ++ [ky u.1]) := by
  refine ⟨List.nodup_append.2 ⟨h.1, by simp, fun a ha b hb => ?_⟩, fun x => ?_⟩
  · obtain rfl := List.mem_singleton.1 hb
    exact fun e => hk (e ▸ ha)
  · rw [List.mem_append, h.2 x, tou_snoc, List.mem_singleton]
    exact ⟨fun y => y.elim .inl fun z => .inr ⟨hm, z.symm⟩, fun y => y.elim .inl fun z => .inr z.2.symm⟩
theorem sort_lt {ks : List Ky} (h : ks.Nodup) : (ks.mergeSort fun x y => decide (x ≤ y)).Pairwise (fun a b => a < b) := by
  have tr : ∀ a b c : Ky, decide (a ≤ b) = true → decide (b ≤ c) = true → decide (a ≤ c) = true := fun a b c h1 h2 => by simp only [decide_eq_true_eq] at *; exact List.le_trans h1 h2
  have to : ∀ a b : Ky, (decide (a ≤ b) || decide (b ≤ a)) = true := fun a b => by simp only [Bool.or_eq_true, decide_eq_true_eq]; exact List.le_total a b
  have hpm := List.mergeSort_perm ks fun x y => decide (x ≤ y)
  have hnd2 := hpm.nodup_iff.2 h
  have hs := List.pairwise_mergeSort tr to ks
  refine (hs.and hnd2).imp fun {a b} hab => ?_
  have h1 : a ≤ b := by simpa using hab.1
  exact Classical.byContradiction fun hx => absurd (List.le_antisymm h1 hx) hab.2
theorem touC_sort {us : List Up} {ks : List Ky} (h : TouC us ks) : TouL us (ks.mergeSort fun x y => decide (x ≤ y)) :=
  ⟨sort_lt h.1, fun x => ((List.mergeSort_perm ks fun x y => decide (x ≤ y)).mem_iff).trans (h.2 x)⟩
theorem touC_ex (us : List Up) : ∃ ks, TouC us ks := by
  have h : ∀ k, ∃ ks, TouC (us.take k) ks := fun k => by
    induction k with
    | zero => exact ⟨[], touC_start⟩
    | succ k ih =>
      obtain ⟨ks, h⟩ := ih
      by_cases hk : k < us.length
      · have e : us.take (k + 1) = us.take k ++ [us[k]] := by rw [List.take_add_one]; simp [hk]
        rw [e]
        by_cases hm : mayE us[k] = 0
        · by_cases hi : ky us[k].1 ∈ ks
          · exact ⟨ks, touC_there h hi⟩
          · exact ⟨_, touC_new h hm hi⟩
        · exact ⟨ks, touC_no h hm⟩
      · rw [List.take_of_length_le (by omega)]
        rw [List.take_of_length_le (by omega)] at h
        exact ⟨ks, h⟩
  have := h us.length
  rwa [List.take_length] at this
theorem touL_ex (us : List Up) : ∃ ss, TouL us ss := by
  obtain ⟨ks, h⟩ := touC_ex us
  exact ⟨_, touC_sort h⟩
theorem untouched (us : List Up) (key : ByteArray) (h : ¬ Tou us (ky key)) : ∀ v : Vl, madeK v key us = v := by
  induction us with
  | nil => exact fun v => rfl
  | cons u us ih =>
    intro v
    have e : madeK v key (u :: us) = madeK (if u.1 = key ∧ mayE u = 0 then oneV v u else v) key us := rfl
    have e1 : ¬ (u.1 = key ∧ mayE u = 0) := fun x => h ⟨u, List.mem_cons_self, x.2, by rw [x.1]⟩
    rw [e, if_neg e1]
    exact ih (fun ⟨w, hw, hx⟩ => h ⟨w, List.mem_cons_of_mem _ hw, hx⟩) v
open Classical in
/-- The rounds that touch a key. -/
noncomputable def ownR (key : ByteArray) (rs : List Rn) : List Rn := rs.filter fun r => decide (Tou r.us (ky key))
theorem ownR_nil (key : ByteArray) : ownR key [] = [] := rfl
theorem ownR_yes {key : ByteArray} {rs : List Rn} {r : Rn} (h : Tou r.us (ky key)) : ownR key (rs ++ [r]) = ownR key rs ++ [r] := by simp [ownR, h]
theorem ownR_no {key : ByteArray} {rs : List Rn} {r : Rn} (h : ¬ Tou r.us (ky key)) : ownR key (rs ++ [r]) = ownR key rs := by simp [ownR, h]
theorem ownR_mem {key : ByteArray} {rs : List Rn} {r : Rn} (h : r ∈ ownR key rs) : r ∈ rs := (List.mem_filter.1 h).1
theorem ownR_len (key : ByteArray) (rs : List Rn) : (ownR key rs).length ≤ rs.length := List.length_filter_le _ _
theorem ownR_read (key : ByteArray) (rs : List Rn) : ∀ v : Vl, madeK v key (flatR (ownR key rs)) = madeK v key (flatR rs) := by
  induction rs with
  | nil => exact fun v => rfl
  | cons r rs ih =>
    intro v
    have e : flatR (r :: rs) = r.us ++ flatR rs := rfl
    by_cases h : Tou r.us (ky key)
    · have e1 : ownR key (r :: rs) = r :: ownR key rs := by simp [ownR, h]
      have e2 : flatR (r :: ownR key rs) = r.us ++ flatR (ownR key rs) := rfl
      rw [e1, e2, e, madeK_app, madeK_app, ih]
    · have e1 : ownR key (r :: rs) = ownR key rs := by simp [ownR, h]
      rw [e1, e, madeK_app, untouched _ _ h, ih]
theorem own_read (key : ByteArray) (rs : List Rn) : stF (flatR (ownR key rs)) (ky key) = stF (flatR rs) (ky key) := by
  rw [← read_eq, ← read_eq, ownR_read]
theorem own_none (key : ByteArray) (rs : List Rn) (h : (ownR key rs).length = 0) : stF (flatR rs) (ky key) = noneV := by
  rw [← own_read, List.length_eq_zero_iff.1 h]; rfl
theorem nub_ex (xs : List Ky) : ∃ ys : List Ky, ys.Nodup ∧ (∀ x, x ∈ ys ↔ x ∈ xs) ∧ ys.length ≤ xs.length := by
  induction xs with
  | nil => exact ⟨[], List.nodup_nil, fun x => Iff.rfl, Nat.le_refl _⟩
  | cons a xs ih =>
    obtain ⟨ys, h1, h2, h3⟩ := ih
    by_cases h : a ∈ ys
    · refine ⟨ys, h1, fun x => ?_, by simp; omega⟩
      rw [List.mem_cons, h2 x]
      exact ⟨.inr, fun y => y.elim (fun e => by subst e; exact (h2 _).1 h) id⟩
    · refine ⟨a :: ys, List.nodup_cons.2 ⟨h, h1⟩, fun x => ?_, by simp; omega⟩
      rw [List.mem_cons, List.mem_cons, h2 x]
theorem has_key {us : List Up} {x : Ky} (h : (stF us x).1 ≠ 0) : x ∈ us.map fun u => ky u.1 := by
  refine Classical.byContradiction fun hn => h ?_
  rw [stF_at]
  have e : (us.filter fun u => decide (ky u.1 = x)) = [] := by
    rw [List.filter_eq_nil_iff]
    intro u hu hx
    exact hn (List.mem_map.2 ⟨u, hu, by simpa using hx⟩)
  rw [e]; rfl
theorem keyL_ex (us : List Up) : ∃ ss, KeyL (stF us) ss ∧ ss.length ≤ us.length := by
  obtain ⟨ys, h1, h2, h3⟩ := nub_ex (us.map fun u => ky u.1)
  let zs := ys.filter fun x => decide ((stF us x).1 ≠ 0)
  have hz : zs.Nodup := h1.filter _
  refine ⟨zs.mergeSort fun x y => decide (x ≤ y), ⟨sort_lt hz, fun x => ?_⟩, ?_⟩
  · rw [(List.mergeSort_perm zs fun x y => decide (x ≤ y)).mem_iff, List.mem_filter, h2 x]
    constructor
    · exact fun y => by simpa using y.2
    · exact fun y => ⟨has_key y, by simpa using y⟩
  · rw [List.length_mergeSort]
    have := List.length_filter_le (fun x => decide ((stF us x).1 ≠ 0)) ys
    rw [List.length_map] at h3
    show (ys.filter _).length ≤ _
    omega
end Go.Proofs.YtbbgibekplfacaaDoor.Y
/- A round's block; rows of rounds; Great, of rounds. -/
namespace Go.Proofs.YtbbgibekplfacaaDoor.Y
open Go Go.RowKit
set_option maxRecDepth 20000
section
variable {w w' : World} {b : Nat} {o n : Int} {a : Option Addr} {len cap : Nat}
end
theorem cells_of {w wr : World} {a : Option Addr} {len : Nat} {us : List Up} {k : Nat} (h : IsUs w a len us) (hb : Below w.heap.size w wr) (hk : k < len) :
    ∃ b off, a = some ⟨b, off, none⟩ ∧ wr.cell? ⟨b, off + k * 4, none⟩ = some (.string (us.getD k up0).1) ∧ wr.cell? ⟨b, off + k * 4 + 1, none⟩ = some (.int .i64 (us.getD k up0).2.1) ∧ wr.cell? ⟨b, off + k * 4 + 2, none⟩ = some (.int .i64 (us.getD k up0).2.2.1) ∧ wr.cell? ⟨b, off + k * 4 + 3, none⟩ = some (.string (us.getD k up0).2.2.2) := by
  have hI := isUs_below h hb
  have hl := h.size
  obtain ⟨b, off, rfl, hf⟩ := hI.lies (by omega)
  exact ⟨b, off, rfl, hf.key k (by omega), hf.k k (by omega), hf.n k (by omega), hf.t k (by omega)⟩
/-- Is a round more than is played? -/
def gR (us : List Up) : Prop := 20 < us.length ∨ gAll us.length us
set_option maxHeartbeats 1000000 in
theorem greatR_yes (o n : Int) (a : Option Addr) (len cap : Nat) (us : List Up) (hg : gR us) (w : World) (hu : IsUs w a len us) :
    Calls Tryd.prog 28 #[.agg #[.int .i64 o, .int .i64 n, .slice a len cap]] w fun x w' => x = .returned (.bool true) ∧ Below w.heap.size w w' := by
  have hr := Rb.new w o n a len cap
  have c2 := hr.c2
  have hsz := hu.size
  have hB := Joins.below_alloc1 w (.cells #[.int .i64 o, .int .i64 n, .slice a len cap] 35)
  have hu1 := isUs_below hu hB
  by_cases hl : 20 < len
  · have q : decide ((20 : Int) < (len : Int)) = true := decide_eq_true (by omega)
    have HB := Lib.hid hB
    clear hr hu hg hB hu1 hl hsz
    go_enter Tryd.func28, Tryd.ntmps28
    go_wp2
    go_ret
    exact ⟨rfl, HB.out⟩
  · have q : decide ((20 : Int) < (len : Int)) = false := decide_eq_false (by omega)
    have hg2 : gAll len us := by rcases hg with hx | hx; · omega
                                 · rw [hsz] at hx; exact hx
    have HG := fun w h => Lib.hid (greatAll_yes a len cap us hg2 w h)
    have HB := Lib.hid hB
    have HU := Lib.hid hu1
    clear hr hu hg hB hu1 hl hg2 hsz
    go_enter Tryd.func28, Tryd.ntmps28
    go_wp2_with fail
    refine (HG _ HU.out).out.mono ?_
    rintro x w1 ⟨rfl, hb⟩
    have HB1 := Lib.hid (Below.next HB.out hb)
    clear hb HB
    go_wp2
    go_ret
    exact ⟨rfl, HB1.out⟩
set_option maxHeartbeats 1000000 in
theorem greatR_no (o n : Int) (a : Option Addr) (len cap : Nat) (us : List Up) (hg : ¬ gR us) (w : World) (hu : IsUs w a len us) :
    Calls Tryd.prog 28 #[.agg #[.int .i64 o, .int .i64 n, .slice a len cap]] w fun x w' => x = .returned (.bool false) ∧ Below w.heap.size w w' := by
  have hr := Rb.new w o n a len cap
  have c2 := hr.c2
  have hsz := hu.size
  have hB := Joins.below_alloc1 w (.cells #[.int .i64 o, .int .i64 n, .slice a len cap] 35)
  have hu1 := isUs_below hu hB
  unfold gR at hg
  rw [hsz] at hg
  have hl : ¬ 20 < len := fun h => hg (.inl h)
  have q : decide ((20 : Int) < (len : Int)) = false := decide_eq_false (by omega)
  have hg2 : ¬ gAll len us := fun h => hg (.inr h)
  have HG := fun w h => Lib.hid (greatAll_no a len cap us hg2 w h)
  have HB := Lib.hid hB
  have HU := Lib.hid hu1
  clear hr hu hg hB hu1 hl hg2 hsz
  go_enter Tryd.func28, Tryd.ntmps28
  go_wp2_with fail
  refine (HG _ HU.out).out.mono ?_
  rintro x w1 ⟨rfl, hb⟩
  have HB1 := Lib.hid (Below.next HB.out hb)
  clear hb HB
  go_wp2
  go_ret
  exact ⟨rfl, HB1.out⟩

/-- Are these rounds more than is played? -/
def gRs (rs : List Rn) : Prop := 40 < rs.length ∨ ∃ i, i < rs.length ∧ gR (rs.getD i rn0).us
/-- Is there more than is played? -/
def g8 (us : List Up) (rs : List Rn) : Prop := gAll us.length us ∨ 20 < us.length ∨ gRs rs ∨ 12 < rs.length
/-- What is played is short. -/
theorem g8_us {us : List Up} {rs : List Rn} (h : ¬ g8 us rs) : us.length ≤ 20 ∧ ∀ u ∈ us, u.1.size ≤ 100 ∧ Sh u.2.2.2 := by
  unfold g8 at h
  refine ⟨Nat.le_of_not_lt fun x => h (.inr (.inl x)), fun u hu => ?_⟩
  obtain ⟨i, hi, rfl⟩ := List.mem_iff_getElem.1 hu
  have h1 : ¬ gU (us.getD i up0) := fun hx => h (.inl (.inr ⟨i, hi, hx⟩))
  have e : us.getD i up0 = us[i] := by simp [List.getD_eq_getElem?_getD, hi]
  rw [e] at h1
  unfold gU at h1
  refine ⟨by omega, ?_⟩
  show us[i].2.2.2.size ≤ 100000
  omega
theorem g8_rs {us : List Up} {rs : List Rn} (h : ¬ g8 us rs) : rs.length ≤ 12 ∧ ∀ r ∈ rs, r.us.length ≤ 20 ∧ ∀ u ∈ r.us, u.1.size ≤ 100 ∧ Sh u.2.2.2 := by
  unfold g8 at h
  refine ⟨Nat.le_of_not_lt fun x => h (.inr (.inr (.inr x))), fun r hr => ?_⟩
  obtain ⟨i, hi, rfl⟩ := List.mem_iff_getElem.1 hr
  have e : rs.getD i rn0 = rs[i] := by simp [List.getD_eq_getElem?_getD, hi]
  have h1 : ¬ gR rs[i].us := fun hx => h (.inr (.inr (.inl (.inr ⟨i, hi, by rw [e]; exact hx⟩))))
  have h2 : ¬ g8 rs[i].us [] := by
    unfold g8 gRs
    rintro (x | x | x | x)
    · exact h1 (.inr x)
    · exact h1 (.inl x)
    · simp at x
    · simp at x
  exact g8_us h2
end Go.Proofs.YtbbgibekplfacaaDoor.Y
/- What is played is short. -/
namespace Go.Proofs.YtbbgibekplfacaaDoor.Y
open Go Go.RowKit
set_option maxRecDepth 20000
/-- What is played is short: the updates of rounds, and the open ones. -/
structure Pl (us : List Up) (rs : List Rn) : Prop where
  sh : ∀ u ∈ flatR rs ++ us, u.1.size ≤ 1000 ∧ Sh u.2.2.2
  len : (flatR rs ++ us).length ≤ 1000
  lr : rs.length ≤ 1000
theorem Pl.us {us : List Up} {rs : List Rn} (h : Pl us rs) : (∀ u ∈ us, u.1.size ≤ 1000 ∧ Sh u.2.2.2) ∧ us.length ≤ 1000 :=
  ⟨fun u hu => h.sh u (List.mem_append_right _ hu), by have := h.len; rw [List.length_append] at this; omega⟩
theorem flatR_split (rs : List Rn) (k : Nat) : flatR rs = flatR (rs.take k) ++ flatR (rs.drop k) := by rw [← flatR_app, List.take_append_drop]
theorem Pl.at {us : List Up} {rs : List Rn} (h : Pl us rs) {k : Nat} (hk : k < rs.length) : (∀ u ∈ (rs.getD k rn0).us, u.1.size ≤ 1000 ∧ Sh u.2.2.2) ∧ (flatR (rs.take k)).length + (rs.getD k rn0).us.length ≤ 1000 := by
  refine ⟨fun u hu => h.sh u (List.mem_append_left _ (mem_flat (rn_mem hk) hu)), ?_⟩
  have h1 := h.len
  rw [List.length_append, flatR_split rs (k + 1), flatR_take rs k hk, List.length_append, List.length_append] at h1
  omega
theorem Pl.taken {us : List Up} {rs : List Rn} (h : Pl us rs) (k : Nat) : ∀ u ∈ flatR (rs.take k), Sh u.2.2.2 := fun u hu =>
  (h.sh u (List.mem_append_left _ (by rw [flatR_split rs k]; exact List.mem_append_left _ hu))).2
end Go.Proofs.YtbbgibekplfacaaDoor.Y
