/- The document's Keys: plain. -/
import Derived.Sort.Walk0
import Derived.Test.YtbbgibekplfacaaDoorT3
namespace Go.Proofs.YtbbgibekplfacaaDoor.Y
open Go Go.RowKit Go.Maps Go.Sort
theorem getD_mem {ts : List Ky} {i : Nat} (h : i < ts.length) : ts.getD i [] ∈ ts := by
  have e : ts.getD i [] = ts[i] := by simp [List.getD_eq_getElem?_getD, h]
  rw [e]; exact List.getElem_mem _
theorem getD_lt {ts : List Ky} (hs : ts.Pairwise (fun a b => a < b)) {i j : Nat} (hij : i < j) (hj : j < ts.length) : ts.getD i [] < ts.getD j [] := by
  have e1 : ts.getD i [] = ts[i] := by simp [List.getD_eq_getElem?_getD, show i < ts.length by omega]
  have e2 : ts.getD j [] = ts[j] := by simp [List.getD_eq_getElem?_getD, hj]
  rw [e1, e2]
  exact List.pairwise_iff_getElem.1 hs i j _ _ hij
def ins (ts : List Ky) (j : Nat) (x : Ky) : List Ky := (ts.take j ++ [x]) ++ ts.drop j
theorem ins_length {ts : List Ky} {j : Nat} (x : Ky) (h : j ≤ ts.length) : (ins ts j x).length = ts.length + 1 := by
  simp [ins]; omega
theorem mem_ins {ts : List Ky} {j : Nat} {x y : Ky} : y ∈ ins ts j x ↔ y = x ∨ y ∈ ts := by
  have h : y ∈ ts ↔ y ∈ ts.take j ∨ y ∈ ts.drop j := by rw [← List.mem_append, List.take_append_drop]
  rw [h]
  simp only [ins, List.mem_append, List.mem_singleton]
  constructor
  · rintro ((h1 | h1) | h1)
    · exact .inr (.inl h1)
    · exact .inl h1
    · exact .inr (.inr h1)
  · rintro (h1 | h1 | h1)
    · exact .inl (.inr h1)
    · exact .inl (.inl h1)
    · exact .inr h1
theorem ins_sorted {ts : List Ky} {j : Nat} {x : Ky} (hs : ts.Pairwise (fun a b => a < b)) (h1 : ∀ i, i < j → ts.getD i [] < x) (h2 : j < ts.length → x < ts.getD j []) : (ins ts j x).Pairwise (fun a b => a < b) := by
  have ht : ∀ a ∈ ts.take j, a < x := fun a ha => by
    obtain ⟨i, hi, rfl⟩ := List.mem_iff_getElem.1 ha
    have hi' : i < j ∧ i < ts.length := by simp at hi; omega
    have := h1 i hi'.1
    simpa [List.getD_eq_getElem?_getD, hi'.2] using this
  have hd : ∀ b ∈ ts.drop j, x < b := fun b hb => by
    obtain ⟨i, hi, rfl⟩ := List.mem_iff_getElem.1 hb
    have hi' : j + i < ts.length := by simp at hi; omega
    have h3 := h2 (by omega)
    have e : (ts.drop j)[i] = ts.getD (j + i) [] := by simp [List.getD_eq_getElem?_getD, hi']
    rw [e]
    by_cases h0 : i = 0
    · subst h0; exact h3
    · exact List.lt_trans h3 (getD_lt hs (by omega) hi')
  refine List.pairwise_append.2 ⟨List.pairwise_append.2 ⟨hs.sublist (List.take_sublist _ _), by simp, fun a ha b hb => ?_⟩, hs.sublist (List.drop_sublist _ _), fun a ha b hb => ?_⟩
  · simp at hb; subst hb; exact ht a ha
  · rcases List.mem_append.1 ha with ha | ha
    · exact List.lt_trans (ht a ha) (hd b hb)
    · simp at ha; subst ha; exact hd b hb
/-- The keys that have a value, of the first k updates, rising. -/
def Upk (us : List Up) (k : Nat) (ts : List Ky) : Prop := ts.Pairwise (fun a b => a < b) ∧ ∀ x, x ∈ ts ↔ (stF us x).1 ≠ 0 ∧ ∃ j, j < k ∧ ky (us.getD j up0).1 = x
theorem upk_start (us : List Up) : Upk us 0 [] := ⟨List.Pairwise.nil, fun x => ⟨fun h => (by cases h), fun ⟨_, j, h, _⟩ => absurd h (Nat.not_lt_zero j)⟩⟩
theorem upk_none {us : List Up} {k : Nat} {ts : List Ky} (h : Upk us k ts) (h0 : (stF us (ky (us.getD k up0).1)).1 = 0) : Upk us (k + 1) ts := by
  refine ⟨h.1, fun x => (h.2 x).trans ⟨fun ⟨h1, j, hj, e⟩ => ⟨h1, j, by omega, e⟩, fun ⟨h1, j, hj, e⟩ => ⟨h1, j, ?_, e⟩⟩⟩
  rcases Nat.lt_or_ge j k with hx | hx
  · exact hx
  · obtain rfl : j = k := by omega
    rw [e] at h0; exact absurd h0 h1
theorem upk_there {us : List Up} {k : Nat} {ts : List Ky} (h : Upk us k ts) (h0 : ky (us.getD k up0).1 ∈ ts) : Upk us (k + 1) ts := by
  refine ⟨h.1, fun x => ⟨fun hx => ?_, fun ⟨h1, j, hj, e⟩ => ?_⟩⟩
  · obtain ⟨h1, j, hj, e⟩ := (h.2 x).1 hx
    exact ⟨h1, j, by omega, e⟩
  · rcases Nat.lt_or_ge j k with hx | hx
    · exact (h.2 x).2 ⟨h1, j, hx, e⟩
    · obtain rfl : j = k := by omega
      rw [← e]; exact h0
theorem upk_ins {us : List Up} {k : Nat} {ts : List Ky} {j : Nat} (h : Upk us k ts) (h0 : (stF us (ky (us.getD k up0).1)).1 ≠ 0) (h1 : ∀ i, i < j → ts.getD i [] < ky (us.getD k up0).1) (h2 : j < ts.length → ky (us.getD k up0).1 < ts.getD j []) : Upk us (k + 1) (ins ts j (ky (us.getD k up0).1)) := by
  refine ⟨ins_sorted h.1 h1 h2, fun x => ?_⟩
  rw [mem_ins, h.2 x]
  constructor
  · rintro (rfl | ⟨h3, i, hi, e⟩)
    · exact ⟨h0, k, by omega, rfl⟩
    · exact ⟨h3, i, by omega, e⟩
  · rintro ⟨h3, i, hi, e⟩
    rcases Nat.lt_or_ge i k with hx | hx
    · exact .inr ⟨h3, i, hx, e⟩
    · obtain rfl : i = k := by omega
      exact .inl e.symm
theorem st_has {us : List Up} {x : Ky} (h : (stF us x).1 ≠ 0) : ∃ j, j < us.length ∧ ky (us.getD j up0).1 = x := by
  refine Classical.byContradiction fun hn => h ?_
  rw [stF_at]
  have e : (us.filter fun u => decide (ky u.1 = x)) = [] := by
    rw [List.filter_eq_nil_iff]
    intro u hu hx
    obtain ⟨i, hi, rfl⟩ := List.mem_iff_getElem.1 hu
    exact hn ⟨i, hi, by simpa [List.getD_eq_getElem?_getD, hi] using hx⟩
  rw [e]; rfl
theorem upk_end {us : List Up} {ts : List Ky} (h : Upk us us.length ts) : KeyL (stF us) ts := ⟨h.1, fun x => (h.2 x).trans ⟨fun hx => hx.1, fun hx => ⟨hx, st_has hx⟩⟩⟩
/-- A part of a row from its start. -/
theorem own_take {w : World} {base g cap n : Nat} {xs : List Value} {e : TypeId} (h : w.ownsRow base e 1 (.slice (some ⟨g, 0, none⟩) n cap) n xs) {j : Nat} (hj : j ≤ n) : w.ownsRow base e 1 (.slice (some ⟨g, 0, none⟩) j cap) j (xs.take j) := by
  obtain ⟨hl, h⟩ := h
  rcases h with ⟨h0, _⟩ | ⟨g', cap', cur, hv, hb, hc, h1, h2, h3, h4⟩
  · cases h0
  cases hv
  refine ⟨by rw [List.length_take]; omega, .inr ⟨g, cap, cur, rfl, hb, hc, by omega, h2, h3, ?_⟩⟩
  rw [← h4, List.take_take]
  congr 1
  omega
theorem less_yes {s t : ByteArray} (h : ky s < ky t) : Op.bytesLess s.toList t.toList = true := by rw [toList_ky, toList_ky, bytesLess_eq]; exact decide_eq_true h
theorem less_no {s t : ByteArray} (h : ¬ ky s < ky t) : Op.bytesLess s.toList t.toList = false := by rw [toList_ky, toList_ky, bytesLess_eq]; exact decide_eq_false h
theorem own_cells {w : World} {base g cap : Nat} {ts : List Ky} (h : w.ownsRow base 9 1 (.slice (some ⟨g, 0, none⟩) ts.length cap) ts.length (ts.map encStr)) (o : Obj) (at_ : Nat) :
    ∀ j u, ((ts.drop at_).map encStr)[j]? = some u → (w.alloc o).cell? ((⟨g, at_, none⟩ : Addr).add j) = some u := by
  intro j u hu
  have hx : at_ + j < ts.length := by
    rcases Nat.lt_or_ge (at_ + j) ts.length with hx | hx
    · exact hx
    · rw [List.getElem?_eq_none (by simp; omega)] at hu; cases hu
  have h1 := (h.alloc o).cellAt (at_ + j) (by omega)
  have e : (⟨g, at_, none⟩ : Addr).add j = ⟨g, at_ + j, none⟩ := by simp [Addr.add]
  rw [e, h1, ← hu]
  simp
theorem drop_len (ts : List Ky) (j : Nat) : ((ts.drop j).map encStr).length = (ts.length - j) * 1 := by simp
theorem one_cells (ts : List Ky) : ∀ u ∈ ts.map encStr, u.oneCell' = true := fun u hu => by
  obtain ⟨x, _, rfl⟩ := List.mem_map.1 hu
  rfl
theorem no_cells {w : World} {ts : List Ky} {j : Nat} (h : ts.length ≤ j) (ad : Addr) : ∀ i u, ((ts.drop j).map encStr)[i]? = some u → w.cell? (ad.add i) = some u := fun i u hu => by
  rw [List.getElem?_eq_none (by simp; omega)] at hu; cases hu
theorem own_form {w : World} {base : Nat} {e : TypeId} {v : Value} {n : Nat} {xs : List Value} (h : w.ownsRow base e 1 v n xs) (hv : v ≠ .slice none 0 0) : ∃ g cap, v = .slice (some ⟨g, 0, none⟩) n cap ∧ base ≤ g ∧ g < w.heap.size := by
  rcases h.2 with ⟨h0, _⟩ | ⟨g, cap, cur, rfl, hb, hc, _⟩
  · exact absurd h0 hv
  · exact ⟨g, cap, rfl, hb, (Array.getElem?_eq_some_iff.1 hc).1⟩
theorem own_cap {w : World} {base g cap n : Nat} {e : TypeId} {xs : List Value} (h : w.ownsRow base e 1 (.slice (some ⟨g, 0, none⟩) n cap) n xs) : n ≤ cap := by
  rcases h.2 with ⟨h0, _⟩ | ⟨g', cap', cur, hv, _, _, h1, _⟩
  · cases h0
  · cases hv; exact h1
/-- Behind the first append: the rest in a row of its own, the front as it was. -/
theorem rest_form {base : Nat} {wr w2 : World} {g cap j : Nat} {ts : List Ky} {o : Obj} {vr : Value} (h : wr.ownsRow base 9 1 (.slice (some ⟨g, 0, none⟩) ts.length cap) ts.length (ts.map encStr)) (hj : j ≤ ts.length)
    (hr : w2.ownsRow wr.heap.size 9 1 vr (0 + (ts.length - j)) ([] ++ (ts.drop j).map encStr)) (hg : (wr.alloc o).grownBy w2 (Value.ownBlock (.slice (some ⟨wr.heap.size, 0, none⟩) 0 0)))
    (hn : vr = .slice none 0 0 ↔ (Value.slice (some ⟨wr.heap.size, 0, none⟩) 0 0) = .slice none 0 0 ∧ ts.length - j = 0) :
    ∃ g2 cap2, vr = .slice (some ⟨g2, 0, none⟩) (ts.length - j) cap2 ∧ wr.heap.size ≤ g2 ∧ w2.ownsRow wr.heap.size 9 1 (.slice (some ⟨g2, 0, none⟩) (ts.length - j) cap2) (ts.length - j) ((ts.drop j).map encStr) ∧
      (w2.ownsRow base 9 1 (.slice (some ⟨g, 0, none⟩) j cap) j ((ts.map encStr).take j) ∧ Below wr.heap.size wr w2) := by
  rw [Nat.zero_add, List.nil_append] at hr
  obtain ⟨g2, cap2, rfl, hb, _⟩ := own_form hr (fun e => by have := (hn.1 e).1; cases this)
  refine ⟨g2, cap2, rfl, hb, hr, own_take ?_ hj, ?_⟩
  · refine (h.alloc o).kept hg (.inr fun e => ?_)
    have h1 := (h.lt g rfl).2
    simp only [Value.ownBlock, Option.some.injEq] at e
    omega
  · exact ((Below.refl _ _).alloc (Nat.le_refl _) o).grown hg (by simp) (fun k hk => by simp only [Value.ownBlock, Option.some.injEq] at hk; omega)
theorem rest_form0 {base : Nat} {wr w2 : World} {g cap j : Nat} {ts : List Ky} {o : Obj} {vr : Value} (h : wr.ownsRow base 9 1 (.slice (some ⟨g, 0, none⟩) ts.length cap) ts.length (ts.map encStr)) (hj : j ≤ ts.length) (hje : ts.length - j = 0)
    (hr : w2.ownsRow wr.heap.size 9 1 vr (0 + 0) ([] ++ [])) (hg : (wr.alloc o).grownBy w2 (Value.ownBlock (.slice (some ⟨wr.heap.size, 0, none⟩) 0 0)))
    (hn : vr = .slice none 0 0 ↔ (Value.slice (some ⟨wr.heap.size, 0, none⟩) 0 0) = .slice none 0 0 ∧ 0 = 0) :
    ∃ g2 cap2, vr = .slice (some ⟨g2, 0, none⟩) 0 cap2 ∧ wr.heap.size ≤ g2 ∧ w2.ownsRow wr.heap.size 9 1 (.slice (some ⟨g2, 0, none⟩) 0 cap2) 0 [] ∧
      (w2.ownsRow base 9 1 (.slice (some ⟨g, 0, none⟩) j cap) j ((ts.map encStr).take j) ∧ Below wr.heap.size wr w2) := by
  have hd : ts.drop j = [] := List.drop_eq_nil_of_le (by omega)
  have := rest_form (vr := vr) (o := o) h hj (by rw [hje, hd]; exact hr) hg (by rw [hje]; exact hn)
  rw [hje, hd] at this
  exact this
theorem nil_cells {w : World} (ad : Addr) : ∀ i u, ([] : List Value)[i]? = some u → w.cell? (ad.add i) = some u := fun i u hu => by simp at hu
theorem nil_one : ∀ u ∈ ([] : List Value), u.oneCell' = true := fun u hu => by cases hu
/-- The rest's cells behind the second append. -/
theorem rest_cells {wr w2 w4 : World} {g g2 cap2 m j cap : Nat} {o : Obj} {xs : List Value} (hr : w2.ownsRow wr.heap.size 9 1 (.slice (some ⟨g2, 0, none⟩) m cap2) m xs) (hg2 : wr.heap.size ≤ g2) (hg : g < wr.heap.size)
    (h4 : (w2.alloc o).grownBy w4 (Value.ownBlock (.slice (some ⟨g, 0, none⟩) j cap))) : ∀ i u, xs[i]? = some u → w4.cell? ((⟨g2, 0, none⟩ : Addr).add i) = some u :=
  ((hr.alloc o).kept h4 (.inr fun e => by simp only [Value.ownBlock, Option.some.injEq] at e; omega)).cells rfl
theorem ins_form {w : World} {base j : Nat} {ts : List Ky} {key : ByteArray} {v2 v3 : Value} {g cap : Nat} (hj : j ≤ ts.length) (h : w.ownsRow base 9 1 v3 (j + 1 + (ts.length - j)) (((ts.map encStr).take j ++ [.string key]) ++ (ts.drop j).map encStr))
    (hn3 : v3 = .slice none 0 0 ↔ v2 = .slice none 0 0 ∧ ts.length - j = 0) (hn2 : v2 = .slice none 0 0 ↔ (Value.slice (some ⟨g, 0, none⟩) j cap) = .slice none 0 0 ∧ 1 = 0) :
    ∃ g3 cap3, v3 = .slice (some ⟨g3, 0, none⟩) (ts.length + 1) cap3 ∧ w.ownsRow base 9 1 (.slice (some ⟨g3, 0, none⟩) (ts.length + 1) cap3) (ts.length + 1) ((ins ts j (ky key)).map encStr) := by
  obtain ⟨g3, cap3, rfl, _, _⟩ := own_form h (fun e => by have := (hn2.1 (hn3.1 e).1).2; omega)
  have e1 : j + 1 + (ts.length - j) = ts.length + 1 := by omega
  have e2 : ((ts.map encStr).take j ++ [.string key]) ++ (ts.drop j).map encStr = (ins ts j (ky key)).map encStr := by
    simp only [ins, List.map_append, List.map_take, List.map_cons, List.map_nil]
    rfl
  rw [e1, e2] at h
  exact ⟨g3, cap3, by rw [e1], h⟩
theorem ins_form0 {w : World} {base j : Nat} {ts : List Ky} {key : ByteArray} {v2 v3 : Value} {g cap : Nat} (hj : j ≤ ts.length) (hje : ts.length - j = 0) (h : w.ownsRow base 9 1 v3 (j + 1 + 0) (((ts.map encStr).take j ++ [.string key]) ++ []))
    (hn3 : v3 = .slice none 0 0 ↔ v2 = .slice none 0 0 ∧ 0 = 0) (hn2 : v2 = .slice none 0 0 ↔ (Value.slice (some ⟨g, 0, none⟩) j cap) = .slice none 0 0 ∧ 1 = 0) :
    ∃ g3 cap3, v3 = .slice (some ⟨g3, 0, none⟩) (ts.length + 1) cap3 ∧ w.ownsRow base 9 1 (.slice (some ⟨g3, 0, none⟩) (ts.length + 1) cap3) (ts.length + 1) ((ins ts j (ky key)).map encStr) := by
  have hd : ts.drop j = [] := List.drop_eq_nil_of_le (by omega)
  exact ins_form hj (by rw [hje, hd]; exact h) (by rw [hje]; exact hn3) hn2
theorem ins_below {w wr w2 w4 w5 : World} {g j cap n : Nat} {o : Obj} {v2 : Value} {xs : List Value} (h : Below w.heap.size w wr) (h2 : Below wr.heap.size wr w2) (h4 : (w2.alloc o).grownBy w4 (Value.ownBlock (.slice (some ⟨g, 0, none⟩) j cap))) (hown : w4.ownsRow w.heap.size 9 1 v2 n xs)
    (h5 : w4.grownBy w5 v2.ownBlock) (hg : w.heap.size ≤ g) : Below w.heap.size w w5 := by
  have a := Below.next h h2
  have b := a.alloc a.size o
  have c := b.grown h4 b.size (fun k hk => by simp only [Value.ownBlock, Option.some.injEq] at hk; omega)
  exact c.grown h5 c.size (fun k hk => (hown.lt k hk).1)
end Go.Proofs.YtbbgibekplfacaaDoor.Y
