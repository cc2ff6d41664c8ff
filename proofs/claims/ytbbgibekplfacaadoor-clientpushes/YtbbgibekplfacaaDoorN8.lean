/- The document's client: New, Seen, Read, Len, Resume. -/
import Derived.Test.YtbbgibekplfacaaDoorRH
import Derived.Test.YtbbgibekplfacaaDoorN4
namespace Go.Proofs.YtbbgibekplfacaaDoor
open Go Go.RowKit
set_option maxRecDepth 20000
theorem pend_rsM {T : TypeId} {B jb : Nat} {w w4 : World} {v : Value} {S M : Nat → Prop} {o last : Int} {rs : List Rn} {a' : Option Addr} {c' : Nat} (hj : Jn T B w jb v S o last rs) (hb : Below w.heap.size w w4) (hr : RowR w.heap.size w4 (.slice a' rs.length c') rs) (h1 : ∀ x, S x → M x) (h2 : ∀ x, w.heap.size ≤ x → x < w4.heap.size → M x) : RsM w4 M a' rs.length c' rs := by
  obtain ⟨hx, hc, hn⟩ := hr.isR rfl fun r hr => (hj.each r hr).1.below hb
  refine ⟨hx, hc, hn, fun _ g off e => ?_, fun r hr _ g off e => h1 g ((hj.each r hr).2 g off e)⟩
  have hl := hx.lies
  subst e
  have hg : (Value.slice (some ⟨g, off, none⟩) rs.length c').ownBlock = some g := rfl
  obtain ⟨hlo, cur, hcur⟩ := hr.typ g hg
  exact h2 g hlo (Array.getElem?_eq_some_iff.1 hcur).1
theorem dk_new {B jb : Nat} {w w4 : World} {v : Value} {S : Nat → Prop} {o last mtu most : Int} {rs : List Rn} {uss : List (List Up)} {a' : Option Addr} {c' : Nat} (hB : B ≤ w.heap.size) (hj : Jn 64 B w jb v S o last rs) (ho : Of o 0 uss rs) (hs : ∀ us ∈ uss, Sm us) (hb : Below w.heap.size w w4) (hr : RowR w.heap.size w4 (.slice a' rs.length c') rs) :
    ∃ D, Dk B (w4.alloc (.cells #[.pointer (some ⟨jb, 0, none⟩), .int .i64 o, .int .i64 mtu, .int .i64 most, .slice none 0 0, .slice a' rs.length c', .slice none 0 0] 44)) w4.heap.size D ⟨o, mtu, most, last, uss, 0, [], []⟩ ∧ ∀ x, D x → x < B ∨ Jf jb v S x ∨ w.heap.size ≤ x := by
  have hs4 := hb.size
  have hjl := hj.lt
  have hnb := Joins.below_alloc1 w4 (.cells #[.pointer (some ⟨jb, 0, none⟩), .int .i64 o, .int .i64 mtu, .int .i64 most, .slice none 0 0, .slice a' rs.length c', .slice none 0 0] 44)
  have hSj : ∀ x, S x → x < w.heap.size ∧ x ≠ jb := fun x hx => ⟨(hj.foot x (.inr (.inr hx))).2, fun e => by
    obtain ⟨_, cur, hc⟩ := hj.own x hx
    subst e
    exact two_types hj.blk hc (by decide) rfl⟩
  have hpm := pend_rsM (M := fun x => x < B ∨ S x ∨ (w.heap.size ≤ x ∧ x < w4.heap.size)) hj hb hr (fun x hx => .inr (.inl hx)) fun x h1 h2 => .inr (.inr ⟨h1, h2⟩)
  have hjB := hj.lo
  refine ⟨Df w4.heap.size (Jf jb v S) fun x => x < B ∨ S x ∨ (w.heap.size ≤ x ∧ x < w4.heap.size), ⟨jb, Jf jb v S, _, none, 0, 0, [], a', rs.length, c', rs, none, 0, 0, ⟨by omega, heap_alloc_new _ _, ⟨v, S, rs, (hj.next hb).next hnb, ho, hs, rfl⟩, fun hf => ?_, fun x hx => .inl hx, fun x hx => ?_, ⟨isRs_nil _, Nat.le_refl _, fun _ => rfl, fun h => absurd h (Nat.lt_irrefl _), fun r hr => by cases hr⟩, rfl, hpm.keep fun x hx => ?_, by rw [List.drop_zero]; exact ho, ⟨isUs_nil _, Nat.le_refl _, fun _ => rfl, fun h => absurd h (Nat.lt_irrefl _)⟩⟩, rfl⟩, fun x hx => ?_⟩
  · have := (hj.foot _ hf).2
    omega
  · have hsz : (w4.alloc (.cells #[.pointer (some ⟨jb, 0, none⟩), .int .i64 o, .int .i64 mtu, .int .i64 most, .slice none 0 0, .slice a' rs.length c', .slice none 0 0] 44)).heap.size = w4.heap.size + 1 := by simp
    rcases hx with hx | hx | hx
    · exact ⟨by omega, by omega, by omega⟩
    · have := hSj x hx
      exact ⟨by omega, by omega, this.2⟩
    · exact ⟨by omega, by omega, by omega⟩
  · refine Below.heap_alloc _ _ _ ?_
    rcases hx with hx | hx | hx
    · omega
    · have := hSj x hx
      omega
    · exact hx.2
  · rcases hx with hx | rfl | hx
    · rcases hx with hx | hx | hx
      · exact .inl hx
      · exact .inr (.inl (.inr (.inr hx)))
      · exact .inr (.inr hx.1)
    · exact .inr (.inr hs4)
    · exact .inr (.inl hx)
set_option maxHeartbeats 2000000 in
theorem ecnew_0 (o mtu p last : Int) (h1 : p < 1) (uss : List (List Up)) (hn : uss.length ≤ 1000) (B jb : Nat) (FJ : Nat → Prop) (w : World) (hB : B ≤ w.heap.size) (h : Jx 64 B w jb FJ o last uss) :
    Calls Tryd.prog 31 #[.pointer (some ⟨jb, 0, none⟩), .int .i64 o, .int .i64 mtu, .int .i64 p] w fun e w' => ∃ b D, e = .returned (.pointer (some ⟨b, 0, none⟩)) ∧ w.heap.size ≤ b ∧ Below w.heap.size w w' ∧ Dk B w' b D ⟨o, mtu, mostOf p, last, uss, 0, [], []⟩ ∧ ∀ x, D x → x < B ∨ FJ x ∨ w.heap.size ≤ x := by
  have q1 : decide (p < 1) = true := decide_eq_true h1
  have q2 : mostOf p = 1 := if_pos h1
  rw [q2]
  obtain ⟨v, S, rs, hj, ho, hs, rfl⟩ := h
  obtain ⟨ax, c, rfl, hx, hc, hna⟩ := hj.is
  have c2 := (hj.next (Joins.below_alloc1 w (.cells #[] 35))).c2
  have HF := fun (a' : Option Addr) (c' : Nat) (w4 : World) (mt mo : Int) hb hr => Lib.hid (dk_new (mtu := mt) (most := mo) (a' := a') (c' := c') (w4 := w4) hB hj ho hs hb hr)
  have hl : rs.length ≤ 1000 := by rw [ho.len]; exact hn
  have HX := Lib.hid hx.at
  have HC := Lib.hid (And.intro hc hna)
  clear hj ho hs hx hc hna hB hn h1 q2
  go_enter Tryd.func31, Tryd.ntmps31
  go_wp2_with (first
    | (at_builtin; refine wpList_appR0 rfl _ _ rfl rfl ax rs.length c rfl rs HX.out HC.out.1 HC.out.2 (by omega) ?_; intro a' c' w4 hr hb; go_frame)
    | go_in)
  obtain ⟨D, hd, hdx⟩ := (HF a' c' w4 mtu 1 hb hr).out
  have HD := Lib.hid (And.intro hd hdx)
  have HB := Lib.hid hb
  clear hb hr hd hdx HF
  go_wp2
  go_ret
  exact ⟨_, D, rfl, HB.out.size, (HB.out).alloc HB.out.size _, HD.out⟩
set_option maxHeartbeats 2000000 in
theorem ecnew_1 (o mtu p last : Int) (h1 : ¬ p < 1) (h2 : 16 < p) (uss : List (List Up)) (hn : uss.length ≤ 1000) (B jb : Nat) (FJ : Nat → Prop) (w : World) (hB : B ≤ w.heap.size) (h : Jx 64 B w jb FJ o last uss) :
    Calls Tryd.prog 31 #[.pointer (some ⟨jb, 0, none⟩), .int .i64 o, .int .i64 mtu, .int .i64 p] w fun e w' => ∃ b D, e = .returned (.pointer (some ⟨b, 0, none⟩)) ∧ w.heap.size ≤ b ∧ Below w.heap.size w w' ∧ Dk B w' b D ⟨o, mtu, mostOf p, last, uss, 0, [], []⟩ ∧ ∀ x, D x → x < B ∨ FJ x ∨ w.heap.size ≤ x := by
  have q1 : decide (p < 1) = false := decide_eq_false h1
  have q3 : decide (16 < p) = true := decide_eq_true h2
  have q2 : mostOf p = 16 := by unfold mostOf; rw [if_neg h1, if_pos h2]
  rw [q2]
  obtain ⟨v, S, rs, hj, ho, hs, rfl⟩ := h
  obtain ⟨ax, c, rfl, hx, hc, hna⟩ := hj.is
  have c2 := (hj.next (Joins.below_alloc1 w (.cells #[] 35))).c2
  have HF := fun (a' : Option Addr) (c' : Nat) (w4 : World) (mt mo : Int) hb hr => Lib.hid (dk_new (mtu := mt) (most := mo) (a' := a') (c' := c') (w4 := w4) hB hj ho hs hb hr)
  have hl : rs.length ≤ 1000 := by rw [ho.len]; exact hn
  have HX := Lib.hid hx.at
  have HC := Lib.hid (And.intro hc hna)
  clear hj ho hs hx hc hna hB hn h1 q2 h2
  go_enter Tryd.func31, Tryd.ntmps31
  go_wp2_with (first
    | (at_builtin; refine wpList_appR0 rfl _ _ rfl rfl ax rs.length c rfl rs HX.out HC.out.1 HC.out.2 (by omega) ?_; intro a' c' w4 hr hb; go_frame)
    | go_in)
  obtain ⟨D, hd, hdx⟩ := (HF a' c' w4 mtu 16 hb hr).out
  have HD := Lib.hid (And.intro hd hdx)
  have HB := Lib.hid hb
  clear hb hr hd hdx HF
  go_wp2
  go_ret
  exact ⟨_, D, rfl, HB.out.size, (HB.out).alloc HB.out.size _, HD.out⟩
set_option maxHeartbeats 2000000 in
theorem ecnew_2 (o mtu p last : Int) (h1 : ¬ p < 1) (h2 : ¬ 16 < p) (uss : List (List Up)) (hn : uss.length ≤ 1000) (B jb : Nat) (FJ : Nat → Prop) (w : World) (hB : B ≤ w.heap.size) (h : Jx 64 B w jb FJ o last uss) :
    Calls Tryd.prog 31 #[.pointer (some ⟨jb, 0, none⟩), .int .i64 o, .int .i64 mtu, .int .i64 p] w fun e w' => ∃ b D, e = .returned (.pointer (some ⟨b, 0, none⟩)) ∧ w.heap.size ≤ b ∧ Below w.heap.size w w' ∧ Dk B w' b D ⟨o, mtu, mostOf p, last, uss, 0, [], []⟩ ∧ ∀ x, D x → x < B ∨ FJ x ∨ w.heap.size ≤ x := by
  have q1 : decide (p < 1) = false := decide_eq_false h1
  have q3 : decide (16 < p) = false := decide_eq_false h2
  have q2 : mostOf p = p := by unfold mostOf; rw [if_neg h1, if_neg h2]
  rw [q2]
  obtain ⟨v, S, rs, hj, ho, hs, rfl⟩ := h
  obtain ⟨ax, c, rfl, hx, hc, hna⟩ := hj.is
  have c2 := (hj.next (Joins.below_alloc1 w (.cells #[] 35))).c2
  have HF := fun (a' : Option Addr) (c' : Nat) (w4 : World) (mt mo : Int) hb hr => Lib.hid (dk_new (mtu := mt) (most := mo) (a' := a') (c' := c') (w4 := w4) hB hj ho hs hb hr)
  have hl : rs.length ≤ 1000 := by rw [ho.len]; exact hn
  have HX := Lib.hid hx.at
  have HC := Lib.hid (And.intro hc hna)
  clear hj ho hs hx hc hna hB hn h1 q2 h2
  go_enter Tryd.func31, Tryd.ntmps31
  go_wp2_with (first
    | (at_builtin; refine wpList_appR0 rfl _ _ rfl rfl ax rs.length c rfl rs HX.out HC.out.1 HC.out.2 (by omega) ?_; intro a' c' w4 hr hb; go_frame)
    | go_in)
  obtain ⟨D, hd, hdx⟩ := (HF a' c' w4 mtu p hb hr).out
  have HD := Lib.hid (And.intro hd hdx)
  have HB := Lib.hid hb
  clear hb hr hd hdx HF
  go_wp2
  go_ret
  exact ⟨_, D, rfl, HB.out.size, (HB.out).alloc HB.out.size _, HD.out⟩
theorem ecnew_any (o mtu p last : Int) (uss : List (List Up)) (hn : uss.length ≤ 1000) (B jb : Nat) (FJ : Nat → Prop) (w : World) (hB : B ≤ w.heap.size) (h : Jx 64 B w jb FJ o last uss) :
    Calls Tryd.prog 31 #[.pointer (some ⟨jb, 0, none⟩), .int .i64 o, .int .i64 mtu, .int .i64 p] w fun e w' => ∃ b D, e = .returned (.pointer (some ⟨b, 0, none⟩)) ∧ w.heap.size ≤ b ∧ Below w.heap.size w w' ∧ Dk B w' b D ⟨o, mtu, mostOf p, last, uss, 0, [], []⟩ ∧ ∀ x, D x → x < B ∨ FJ x ∨ w.heap.size ≤ x := by
  by_cases h1 : p < 1
  · exact ecnew_0 o mtu p last h1 uss hn B jb FJ w hB h
  · by_cases h2 : 16 < p
    · exact ecnew_1 o mtu p last h1 h2 uss hn B jb FJ w hB h
    · exact ecnew_2 o mtu p last h1 h2 uss hn B jb FJ w hB h
section
variable {B b : Nat} {D : Nat → Prop} {s : Cs}
set_option maxHeartbeats 4000000 in
theorem dseen_any (hk : s.k ≤ s.uss.length) (hn0 : s.kn.length + s.uss.length ≤ 1000) (w : World) (h : Dk B w b D s) :
    Calls Tryd.prog 45 #[.pointer (some ⟨b, 0, none⟩)] w fun e w' => ∃ a n c rs, e = .returned (.slice a n c) ∧ IsRs w' a n rs ∧ n ≤ c ∧ (a = none → c = 0) ∧ Y.flatR rs = (s.kn.flatMap fun r => r.2.2) ++ (s.uss.drop s.k).flatten ∧ n ≤ 1000 ∧ Below w.heap.size w w' := by
  obtain ⟨jb, FJ, M, ak, lk, ck, rk, ap, lp, cp, rp, ao, lo, co, hq, rfl⟩ := h
  obtain rfl : rk.length = lk := hq.kr.is.size
  obtain rfl : rp.length = lp := hq.pr.is.size
  have hl : rk.length + rp.length ≤ 1000 := by
    have h1 := hq.po.len
    rw [List.length_drop] at h1
    rw [← hq.km, List.length_map] at hn0
    omega
  have HF1 := Lib.hid (flat_kn rk)
  rw [hq.km] at HF1
  have HF2 := Lib.hid hq.po.flat
  have c4 := hq.c4
  have c5 := hq.c5
  have HK : Hid (∀ W, Below w.heap.size w W → W.cell? ⟨b, 4, none⟩ = some (.slice ak rk.length ck) ∧ W.cell? ⟨b, 5, none⟩ = some (.slice ap rp.length cp)) := Lib.hid fun W hW => ⟨(hq.next hW).c4, (hq.next hW).c5⟩
  have HI1 := Lib.hid hq.kr
  have HI2 := Lib.hid hq.pr
  clear hq hk hn0
  go_enter Tryd.func45, Tryd.ntmps45
  go_wp2_with fail
  refine wp_region_held_drew (S := fun w' => w'.cell? ⟨b, 4, none⟩ = some (.slice ak rk.length ck) ∧ w'.cell? ⟨b, 5, none⟩ = some (.slice ap rp.length cp)) (by kernel_rfl) ?_ (fun hH => ?_)
  · exact ⟨c4, c5⟩
  refine tkH 1 ?_ ?_ ?_
  rotate_left
  · intro w h; try dsimp only at h
    obtain ⟨q4, q5⟩ := h; go_simp; all_goals with_reducible rfl
  try simp only [pt]
  refine tkH 2 ?_ ?_ ?_
  rotate_left
  · intro w h; try dsimp only at h
    obtain ⟨q4, q5⟩ := h; go_simp; all_goals with_reducible rfl
  try simp only [pt]
  refine tkH 3 ?_ ?_ ?_
  rotate_left
  · intro w h; try dsimp only at h
    obtain ⟨q4, q5⟩ := h; go_simp; all_goals with_reducible rfl
  try simp only [pt]
  refine tkH 4 ?_ ?_ ?_
  rotate_left
  · intro w h; try dsimp only at h
    obtain ⟨q4, q5⟩ := h; go_simp; all_goals with_reducible rfl
  try simp only [pt]
  refine tkH 6 ?_ ?_ ?_
  rotate_left
  · intro w h; try dsimp only at h
    obtain ⟨q4, q5⟩ := h; go_simp; all_goals with_reducible rfl
  try simp only [pt]
  refine tkH 7 ?_ ?_ ?_
  rotate_left
  · intro w h; try dsimp only at h
    obtain ⟨q4, q5⟩ := h; go_simp; all_goals with_reducible rfl
  try simp only [pt]
  refine tkH 8 ?_ ?_ ?_
  rotate_left
  · intro w h; try dsimp only at h
    obtain ⟨q4, q5⟩ := h; go_simp; all_goals with_reducible rfl
  try simp only [pt]
  refine tkH 9 ?_ ?_ ?_
  rotate_left
  · intro w h; try dsimp only at h
    obtain ⟨q4, q5⟩ := h; go_simp; all_goals with_reducible rfl
  try simp only [pt]
  refine wpAnyH_ready (rs := [0]) (by kernel_rfl) (by simp) ?_
  refine rdH (fun K hK => ?_) ?_
  · have hb1 := Joins.below_alloc1 w (.cells #[] 35)
    have n1 := HK.out _ hb1
    go_simp
    refine hK.out _ _ ?_ (fun hH => ?_)
    · exact n1
    clear hK K
    try simp only [pt]
    refine wpAnyH_ready (rs := [5]) (by kernel_rfl) (by simp) ?_
    refine rdH (fun K hK => ?_) ?_
    · obtain ⟨a4, c4', w4, hrun, hr4, hg4, _⟩ := run_appR (w.alloc (.cells #[] 35)).drew 40 w.heap.size _ [] (show RowR w.heap.size (w.alloc (.cells #[] 35)).drew _ [] from rowR_new w) ak rk.length ck rk (rsAt_below HI1.out.is.at hb1.drew) HI1.out.hc HI1.out.hn (by simp; omega) (by simp)
      simp only [List.length_nil, Nat.zero_add, List.nil_append] at hrun hr4
      have hb4 := belR (show RowR w.heap.size (w.alloc (.cells #[] 35)).drew _ [] from rowR_new w) hb1.drew hg4 (by simp)
      have n4 := HK.out _ hb4
      refine step_append_run (by rfl) (.tmp 3) (.tmp 7) 40 rfl _ _ _ rfl rfl hrun ?_
      refine hK.out _ _ ?_ (fun hH => ?_)
      · exact n4
      clear hK K
      try simp only [pt]
      refine wpAnyH_ready (rs := [10]) (by kernel_rfl) (by simp) ?_
      refine rdH (fun K hK => ?_) ?_
      · obtain ⟨a5, c5', w5, hrun5, hr5, hg5, _⟩ := run_appR w4 40 w.heap.size _ rk hr4 ap rp.length cp rp (rsAt_below HI2.out.is.at hb4) HI2.out.hc HI2.out.hn (by omega) hb4.size
        have hb5 := belR hr4 hb4 hg5 hb4.size
        have n5 := HK.out _ hb5
        refine step_append_run (by rfl) (.tmp 8) (.tmp 12) 40 rfl _ _ _ rfl rfl hrun5 ?_
        refine hK.out _ _ ?_ (fun hH => ?_)
        · exact n5
        clear hK K
        try simp only [pt]
        refine tkH 11 ?_ ?_ ?_
        rotate_left
        · intro w h; try dsimp only at h
          obtain ⟨q4, q5⟩ := h; go_simp; all_goals with_reducible rfl
        try simp only [pt]
        refine wpAnyH_done (by kernel_rfl) ?_ _
        have HB5 := Lib.hid hb5
        have HR5 := Lib.hid hr5
        clear n1 n4 n5 hb1 hb4 hb5 hr4 hr5 hg4 hg5 hrun hrun5 c4 c5
        go_wp2
        go_ret
        have hll : (rk ++ rp).length = rk.length + rp.length := List.length_append
        obtain ⟨hx, hc, hn⟩ := HR5.out.isR hll.symm fun r hr => by
          rcases List.mem_append.1 hr with hr | hr
          · exact (HI1.out.is.each r hr).below HB5.out
          · exact (HI2.out.is.each r hr).below HB5.out
        exact ⟨a5, _, c5', _, rfl, hx, hc, hn, by rw [Y.flatR_app, HF1.out, HF2.out], hl, HB5.out⟩
      exact AllReadyH.nil
    exact AllReadyH.nil
  exact AllReadyH.nil
set_option maxHeartbeats 4000000 in
theorem eread_any (key : ByteArray) (hk : s.k ≤ s.uss.length) (hn0 : s.kn.length + s.uss.length ≤ 1000) (hs : s.seen.length ≤ 1000 ∧ ∀ u ∈ s.seen, u.1.size ≤ 1000 ∧ Y.Sh u.2.2.2) (w : World) (h : Dk B w b D s) :
    Calls Tryd.prog 20 #[.pointer (some ⟨b, 0, none⟩), .string key] w fun e w' => e = .returned (Y.vv (Y.stF s.seen (Y.ky key))) ∧ Below w.heap.size w w' := by
  have hA := Joins.below_alloc1 w (.cells #[.int .i64 0, .int .i64 0, .string ⟨#[]⟩] 49)
  have HP := Lib.hid (dseen_any hk hn0 ((w.alloc (.cells #[.int .i64 0, .int .i64 0, .string ⟨#[]⟩] 49)).drew) ((h.next hA).next (Below.refl _ _).drew))
  obtain ⟨jb, FJ, M, ak, lk, ck, rk, ap, lp, cp, rp, a, lo, c, hq, rfl⟩ := h
  obtain rfl : s.op.length = lo := hq.ou.is.size
  have hu := hq.ou.is
  have hc := hq.ou.hc
  have hna := hq.ou.hn
  have HK : Hid (∀ W, Below w.heap.size w W → W.cell? ⟨b, 6, none⟩ = some (.slice a s.op.length c) ∧ IsUs W a s.op.length s.op) := Lib.hid fun W hW => ⟨(hq.next hW).c6, isUs_below hu hW⟩
  have c6 := (HK.out _ hA).1
  have HS := Lib.hid hs
  obtain ⟨⟨rk, rn, rs0⟩, HEQ⟩ : ∃ r, Hid (Y.stF s.seen (Y.ky key) = r) := ⟨_, Lib.hid rfl⟩
  rw [HEQ.out]
  have hz : Y.Vb (w.alloc (.cells #[.int .i64 0, .int .i64 0, .string ⟨#[]⟩] 49)) w.heap.size (0, 0, ⟨#[]⟩) := new_at rfl
  have HZ := Lib.hid hz
  have HA := Lib.hid hA
  have HCN := Lib.hid (And.intro hc hna)
  clear hq hu hz hA hk hn0 hs hc hna
  go_enter Tryd.func20, Tryd.ntmps20
  go_wp2_with fail
  refine wp_region_held_drew (S := fun w' => w'.cell? ⟨b, 6, none⟩ = some (.slice a s.op.length c)) (by kernel_rfl) ?_ (fun hH => ?_)
  · exact c6
  refine tkH 0 ?_ ?_ ?_
  rotate_left
  · intro w hSw
    try dsimp only at hSw
    go_simp
    all_goals with_reducible rfl
  try simp only [pt]
  refine tkH 1 ?_ ?_ ?_
  rotate_left
  · intro w hSw
    try dsimp only at hSw
    go_simp
    all_goals with_reducible rfl
  try simp only [pt]
  refine tkH 2 ?_ ?_ ?_
  rotate_left
  · intro w hSw
    try dsimp only at hSw
    go_simp
    all_goals with_reducible rfl
  try simp only [pt]
  refine tkH 3 ?_ ?_ ?_
  rotate_left
  · intro w hSw
    try dsimp only at hSw
    go_simp
    all_goals with_reducible rfl
  try simp only [pt]
  refine tkH 4 ?_ ?_ ?_
  rotate_left
  · intro w hSw
    try dsimp only at hSw
    go_simp
    all_goals with_reducible rfl
  try simp only [pt]
  refine tkH 5 ?_ ?_ ?_
  rotate_left
  · intro w hSw
    try dsimp only at hSw
    go_simp
    all_goals with_reducible rfl
  try simp only [pt]
  refine wpAnyH_ready (rs := [6]) (by kernel_rfl) (by simp) ?_
  refine rdH (fun K hK => ?_) ?_
  · go_simp
    refine HP.out.mono ?_
    rintro e w1 ⟨a2, n2, c2, rs, rfl, x2, x3, x4, x5, x6, hb'⟩
    have hb : Below (w.alloc (.cells #[.int .i64 0, .int .i64 0, .string ⟨#[]⟩] 49)).heap.size (w.alloc (.cells #[.int .i64 0, .int .i64 0, .string ⟨#[]⟩] 49)) w1 := ⟨hb'.os, hb'.tape, hb'.output, hb'.size, hb'.block⟩
    have hb1 := Below.next HA.out hb
    have n1 := HK.out _ hb1
    have HR := Y.dread_any key a s.op.length c s.op a2 n2 c2 rs (pl_of HS.out x5 x2.size x6).1 HCN.out.1 HCN.out.2 w1 n1.2 x2
    rw [(pl_of HS.out x5 x2.size x6).2] at HR
    rw [HEQ.out] at HR
    simp only [Y.vv_eq] at HR
    have HRR := Lib.hid HR
    have HB1 := Lib.hid hb1
    have HZ1 := Lib.hid (HZ.out.kept hb rfl)
    have m1 := n1.1
    clear HR x2 x3 x4 x5 x6 hb hb' hb1 HP HZ n1
    go_wp2_with fail
    refine hK.out _ _ ?_ (fun hH => ?_)
    · exact m1
    clear hK K
    try simp only [pt]
    refine wpAnyH_ready (rs := [7]) (by kernel_rfl) (by simp) ?_
    refine rdH (fun K hK => ?_) ?_
    · go_simp
      refine HRR.out.mono ?_
      rintro e w3 ⟨rfl, hb⟩
      have hz3 := HZ1.out.kept hb rfl
      obtain ⟨j0, j1, j2⟩ := Y.Vb.c hz3
      have p0 := Y.unfrozen_at hz3 0
      have p1 := Y.unfrozen_at hz3 1
      have p2 := Y.unfrozen_at hz3 2
      have hb3 := Below.next HB1.out hb
      have m3 := (HK.out _ hb3).1
      have m4 := (HK.out _ (below_set3 hb3 (Nat.le_refl _) (.int .i64 rk) (.int .i64 rn) (.string rs0))).1
      have HB3 := Lib.hid hb3
      clear hb hb3 hz3 HRR HZ1 HB1 m1
      go_wp2_with fail
      refine hK.out _ _ ?_ (fun hH => ?_)
      · exact m3
      clear hK K
      try simp only [pt]
      refine wpAnyH_ready (rs := [8]) (by kernel_rfl) (by simp) ?_
      refine rdH (fun K hK => ?_) ?_
      · go_simp
        refine hK.out _ _ ?_ (fun hH => ?_)
        · exact m4
        clear hK K
        try simp only [pt]
        refine wpAnyH_done (by kernel_rfl) ?_ _
        clear m3 m4 c6
        go_wp2
        refine bodyPost_ret (v := .agg #[.int .i64 rk, .int .i64 rn, .string rs0]) (by simp [results, Tryd.results20, go_sem, j0, j1, j2]) rfl ⟨rfl, ?_⟩
        exact below_set3 HB3.out (Nat.le_refl _) _ _ _
      exact AllReadyH.nil
    exact AllReadyH.nil
  exact AllReadyH.nil
set_option maxHeartbeats 4000000 in
theorem elen_any (ss : List Y.Ky) (hss : Y.KeyL (Y.stF s.seen) ss) (hk : s.k ≤ s.uss.length) (hn0 : s.kn.length + s.uss.length ≤ 1000) (hs : s.seen.length ≤ 1000 ∧ ∀ u ∈ s.seen, u.1.size ≤ 1000 ∧ Y.Sh u.2.2.2) (w : World) (h : Dk B w b D s) :
    Calls Tryd.prog 22 #[.pointer (some ⟨b, 0, none⟩)] w fun e w' => e = .returned (.int .i64 (ss.length : Int)) ∧ Below w.heap.size w w' := by
  have HP := Lib.hid (dseen_any hk hn0 w.drew (h.next (Below.refl _ _).drew))
  obtain ⟨jb, FJ, M, ak, lk, ck, rk, ap, lp, cp, rp, a, lo, c, hq, rfl⟩ := h
  obtain rfl : s.op.length = lo := hq.ou.is.size
  have hu := hq.ou.is
  have hc := hq.ou.hc
  have hna := hq.ou.hn
  have HK : Hid (∀ W, Below w.heap.size w W → W.cell? ⟨b, 6, none⟩ = some (.slice a s.op.length c) ∧ IsUs W a s.op.length s.op) := Lib.hid fun W hW => ⟨(hq.next hW).c6, isUs_below hu hW⟩
  have c6 := hq.c6
  have HS := Lib.hid hs
  have HSS := Lib.hid hss
  have HCN := Lib.hid (And.intro hc hna)
  clear hq hu hk hn0 hs hc hna hss
  go_enter Tryd.func22, Tryd.ntmps22
  go_wp2_with fail
  refine wp_region_held_drew (S := fun w' => w'.cell? ⟨b, 6, none⟩ = some (.slice a s.op.length c)) (by kernel_rfl) ?_ (fun hH => ?_)
  · exact c6
  refine tkH 0 ?_ ?_ ?_
  rotate_left
  · intro w hSw
    try dsimp only at hSw
    go_simp
    all_goals with_reducible rfl
  try simp only [pt]
  refine tkH 1 ?_ ?_ ?_
  rotate_left
  · intro w hSw
    try dsimp only at hSw
    go_simp
    all_goals with_reducible rfl
  try simp only [pt]
  refine tkH 2 ?_ ?_ ?_
  rotate_left
  · intro w hSw
    try dsimp only at hSw
    go_simp
    all_goals with_reducible rfl
  try simp only [pt]
  refine tkH 3 ?_ ?_ ?_
  rotate_left
  · intro w hSw
    try dsimp only at hSw
    go_simp
    all_goals with_reducible rfl
  try simp only [pt]
  refine tkH 4 ?_ ?_ ?_
  rotate_left
  · intro w hSw
    try dsimp only at hSw
    go_simp
    all_goals with_reducible rfl
  try simp only [pt]
  refine wpAnyH_ready (rs := [5]) (by kernel_rfl) (by simp) ?_
  refine rdH (fun K hK => ?_) ?_
  · go_simp
    refine HP.out.mono ?_
    rintro e w1 ⟨a2, n2, c2, rs, rfl, x2, x3, x4, x5, x6, hb'⟩
    have hb1 : Below w.heap.size w w1 := ⟨hb'.os, hb'.tape, hb'.output, hb'.size, hb'.block⟩
    have n1 := HK.out _ hb1
    have HR := Y.dlen_any a s.op.length c s.op a2 n2 c2 rs (pl_of HS.out x5 x2.size x6).1 HCN.out.1 HCN.out.2 ss (by rw [(pl_of HS.out x5 x2.size x6).2]; exact HSS.out) w1 n1.2 x2
    have HRR := Lib.hid HR
    have HB1 := Lib.hid hb1
    have m1 := n1.1
    clear HR x2 x3 x4 x5 x6 hb' hb1 HP n1
    go_wp2_with fail
    refine hK.out _ _ ?_ (fun hH => ?_)
    · exact m1
    clear hK K
    try simp only [pt]
    refine wpAnyH_ready (rs := [6]) (by kernel_rfl) (by simp) ?_
    refine rdH (fun K hK => ?_) ?_
    · go_simp
      refine HRR.out.mono ?_
      rintro e w3 ⟨rfl, hb⟩
      have hb3 := Below.next HB1.out hb
      have m3 := (HK.out _ hb3).1
      have HB3 := Lib.hid hb3
      clear hb hb3 HRR HB1 m1
      go_wp2_with fail
      refine hK.out _ _ ?_ (fun hH => ?_)
      · exact m3
      clear hK K
      try simp only [pt]
      refine tkH 7 ?_ ?_ ?_
      rotate_left
      · intro w hSw
        try dsimp only at hSw
        go_simp
        all_goals with_reducible rfl
      try simp only [pt]
      refine wpAnyH_done (by kernel_rfl) ?_ _
      clear m3 c6
      go_wp2
      go_ret
      exact ⟨rfl, HB3.out⟩
    exact AllReadyH.nil
  exact AllReadyH.nil
end
section
variable {B b : Nat} {D : Nat → Prop} {s : Cs}
theorem dk_resume {jb : Nat} {w w1 w4 : World} {FJ M S : Nat → Prop} {ak ap ao : Option Addr} {lk ck lp cp lo co : Nat} {rk rp rs : List Rn} {pd : List (List Up)} {v : Value} {a' : Option Addr} {c' : Nat} (hq : Dq B w1 b jb FJ M ak lk ck rk ap lp cp rp pd ao lo co { s with kn := [], op := [] }) (hj : Jn 64 B w1 jb v S s.o s.last rs) (ho : Of s.o 0 s.uss rs) (hF : FJ = Jf jb v S) (hb : Below w1.heap.size w1 w4) (hr : RowR w1.heap.size w4 (.slice a' rs.length c') rs) (hs : w.heap.size ≤ w1.heap.size) :
    ∃ D', Dk B (w4.setCell ⟨b, 5, none⟩ (.slice a' rs.length c')) b D' s.resume ∧ ∀ x, D' x → Df b FJ M x ∨ w.heap.size ≤ x := by
  have hS : ∀ x, S x → x < w1.heap.size ∧ x ≠ b ∧ x ≠ jb := fun x hx => ⟨(hj.foot x (.inr (.inr hx))).2, fun e => hq.bj (by rw [hF, ← e]; exact .inr (.inr hx)), fun e => by
    obtain ⟨_, cur, hc⟩ := hj.own x hx
    subst e
    exact two_types hj.blk hc (by decide) rfl⟩
  have h1 := hq.more (M' := fun x => M x ∨ S x) (fun x hx => .inl hx) fun x hx => by
    rcases hx with hx | hx
    · exact hq.mm x hx
    · exact hS x hx
  have h2 := h1.grow hb
  have h3 := h2.setP (k' := 0) (pd' := s.uss) (pend_rsM hj hb hr (fun x hx => .inl (.inr hx)) fun x hx hy => .inr ⟨hx, hy⟩) ho
  refine ⟨_, ⟨jb, FJ, _, ak, lk, ck, rk, a', rs.length, c', rs, ao, lo, co, h3, rfl⟩, fun x hx => ?_⟩
  rcases hx with hx | hx | hx
  · rcases hx with hx | hx
    · rcases hx with hx | hx
      · exact .inl (.inl hx)
      · exact .inl (.inr (.inr (by rw [hF]; exact .inr (.inr hx))))
    · exact .inr (Nat.le_trans hs hx.1)
  · exact .inl (.inr (.inl hx))
  · exact .inl (.inr (.inr hx))
set_option maxHeartbeats 4000000 in
theorem eresume_any (hn : s.uss.length ≤ 1000) (w : World) (h : Dk B w b D s) :
    Calls Tryd.prog 38 #[.pointer (some ⟨b, 0, none⟩)] w fun e w' => e = .returned (.tuple #[]) ∧ ∃ D', DkW B w w' b D D' s.resume := by
  obtain ⟨jb, FJ, M, ak, lk, ck, rk, ap, lp, cp, rp, ao, lo, co, hq, rfl⟩ := h
  have f4 := hq.f0 4
  have f6 := hq.f0 6
  have z4 := hq.c4
  have z6 := hq.c6
  have HQ1 := Lib.hid (hq.setK (ak' := none) (lk' := 0) (ck' := 0) (rk' := []) ⟨isRs_nil _, Nat.le_refl _, fun _ => rfl, fun h => absurd h (Nat.lt_irrefl _), fun r hr => by cases hr⟩)
  have HQ2 := Lib.hid (HQ1.out.setO (ao' := none) (lo' := 0) (co' := 0) (op' := []) ⟨isUs_nil _, Nat.le_refl _, fun _ => rfl, fun h => absurd h (Nat.lt_irrefl _)⟩)
  have HLV : Hid (Lv w ((w.setCell ⟨b, 4, none⟩ (.slice none 0 0)).setCell ⟨b, 6, none⟩ (.slice none 0 0)) fun x => x = b) := Lib.hid ((Lv.set (F := fun x => x = b) rfl _ _).trans (Lv.set (F := fun x => x = b) rfl _ _))
  have HBB := Lib.hid hq.hB
  have HLN := Lib.hid hn
  have f6' : (w.setCell ⟨b, 4, none⟩ (.slice none 0 0)).frozen? ⟨b, 6, none⟩ = false := HQ1.out.f0 6
  clear hq HQ1 hn
  go_enter Tryd.func38, Tryd.ntmps38
  go_upto_region 2 with fail
  generalize (w.setCell ⟨b, 4, none⟩ (.slice none 0 0)).setCell ⟨b, 6, none⟩ (.slice none 0 0) = w1 at *
  clear f4 f6 z4 z6 f6'
  obtain ⟨v, S, rs, hj, ho, hs, hF⟩ := HQ2.out.jx
  obtain ⟨ax, c, rfl, hx, hc, hna⟩ := hj.is
  have hA := Joins.below_alloc1 w1 (.cells #[] 35)
  have c0 := (HQ2.out.next hA).c0
  have j2 := (hj.next hA).c2
  have HF := fun (a' : Option Addr) (c' : Nat) (w4 : World) hb hr => Lib.hid (dk_resume (w := w) (a' := a') (c' := c') (w4 := w4) (s := s) HQ2.out hj ho hF hb hr HLV.out.size)
  have hl : rs.length ≤ 1000 := by rw [ho.len]; exact HLN.out
  have HX := Lib.hid hx.at
  have HC := Lib.hid (And.intro hc hna)
  have HK : Hid (∀ W, Below w1.heap.size w1 W → W.cell? ⟨b, 5, none⟩ = some (.slice ap lp cp) ∧ W.frozen? ⟨b, 5, none⟩ = false) := Lib.hid fun W hW => ⟨(HQ2.out.next hW).c5, (HQ2.out.next hW).f0 5⟩
  clear hj ho hs hF hx hc hna hA
  go_wp2_with (first
    | (at_builtin; refine wpList_appR0 rfl _ _ rfl rfl ax rs.length c rfl rs HX.out HC.out.1 HC.out.2 (by omega) ?_; intro a' c' w4 hr hb; have hk5 := HK.out _ hb; have k5 := hk5.1; have g5 := hk5.2; go_frame)
    | go_in)
  obtain ⟨D, hd, hdx⟩ := (HF a' c' w4 hb hr).out
  have HD := Lib.hid (And.intro hd hdx)
  have HL : Hid (Lv w (w4.setCell ⟨b, 5, none⟩ (.slice a' rs.length c')) fun x => x = b) := Lib.hid ((HLV.out.trans (Lv.ofBelow hb _)).trans (Lv.set (F := fun x => x = b) rfl _ _))
  clear hb hr hd hdx HF hk5
  go_wp2
  first | go_end0 | refine bodyPost_ret (results_none rfl _ _ _) rfl ?_
  exact ⟨rfl, D, HD.out.1, ⟨HL.out.os, HL.out.tape, HL.out.output, HL.out.size, fun x hx hn => HL.out.block x hx fun e => hn ⟨by rw [e]; exact HBB.out, .inr (.inl e)⟩⟩, HD.out.2⟩
end
end Go.Proofs.YtbbgibekplfacaaDoor
