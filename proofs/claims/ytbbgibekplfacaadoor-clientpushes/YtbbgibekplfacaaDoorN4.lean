/- The program's Read and Len. -/
import Derived.Test.YtbbgibekplfacaaDoorRH
import Derived.Test.YtbbgibekplfacaaDoorN3
namespace Go.Proofs.YtbbgibekplfacaaDoor
open Go Go.RowKit
set_option maxRecDepth 20000
theorem pl_of {s : Cs} {rs : List Rn} {n : Nat} (hs : s.seen.length ≤ 1000 ∧ ∀ u ∈ s.seen, u.1.size ≤ 1000 ∧ Y.Sh u.2.2.2) (hf : Y.flatR rs = (s.kn.flatMap fun r => r.2.2) ++ (s.uss.drop s.k).flatten) (hl : rs.length = n) (hn : n ≤ 1000) : Y.Pl s.op rs ∧ Y.flatR rs ++ s.op = s.seen := by
  have e : Y.flatR rs ++ s.op = s.seen := by rw [hf]; rfl
  exact ⟨⟨by rw [e]; exact hs.2, by rw [e]; exact hs.1, by omega⟩, e⟩
section
variable {B b : Nat} {F : Nat → Prop} {s : Cs}
set_option maxHeartbeats 4000000 in
theorem cread_any (key : ByteArray) (hk : s.k ≤ s.uss.length) (hn0 : s.kn.length + s.uss.length ≤ 1000) (hs : s.seen.length ≤ 1000 ∧ ∀ u ∈ s.seen, u.1.size ≤ 1000 ∧ Y.Sh u.2.2.2) (w : World) (h : Pk B w b F s) :
    Calls Tryd.prog 19 #[.pointer (some ⟨b, 0, none⟩), .string key] w fun e w' => e = .returned (Y.vv (Y.stF s.seen (Y.ky key))) ∧ Below w.heap.size w w' := by
  have hA := Joins.below_alloc1 w (.cells #[.int .i64 0, .int .i64 0, .string ⟨#[]⟩] 49)
  have HP := Lib.hid (crounds_any hk hn0 ((w.alloc (.cells #[.int .i64 0, .int .i64 0, .string ⟨#[]⟩] 49)).drew) ((h.next hA).next (Below.refl _ _).drew))
  obtain ⟨jb, FJ, v, S, rs, vo, hq, rfl⟩ := h
  obtain ⟨a, c, rfl, hu, hc, hna⟩ := hq.op.is
  have HK : Hid (∀ W, Below w.heap.size w W → W.cell? ⟨b, 6, none⟩ = some (.slice a s.op.length c) ∧ IsUs W a s.op.length s.op) := Lib.hid fun W hW => ⟨(hq.next hW).c6, isUs_below hu hW⟩
  have c6 := (HK.out _ hA).1
  have HS := Lib.hid hs
  obtain ⟨⟨rk, rn, rs0⟩, HEQ⟩ : ∃ r, Hid (Y.stF s.seen (Y.ky key) = r) := ⟨_, Lib.hid rfl⟩
  rw [HEQ.out]
  have hz : Y.Vb (w.alloc (.cells #[.int .i64 0, .int .i64 0, .string ⟨#[]⟩] 49)) w.heap.size (0, 0, ⟨#[]⟩) := new_at rfl
  have HZ := Lib.hid hz
  have HA := Lib.hid hA
  have HCN := Lib.hid (And.intro hc hna)
  clear hq hu hz hA hk hn0 hs hc hna
  go_enter Tryd.func19, Tryd.ntmps19
  go_wp2_with fail
  refine wp_region_held_drew (S := fun w' => w'.cell? ⟨b, 6, none⟩ = some (.slice a s.op.length c)) (by kernel_rfl) ?_ (fun hH => ?_)
  · exact c6
  refine tkH 0 ?_ ?_ ?_
  rotate_left
  · intro w hSw
    try dsimp only at hSw
    go_simp
    all_goals with_reducible rfl
  try simp only [pt]
  refine tkH 1 ?_ ?_ ?_
  rotate_left
  · intro w hSw
    try dsimp only at hSw
    go_simp
    all_goals with_reducible rfl
  try simp only [pt]
  refine tkH 2 ?_ ?_ ?_
  rotate_left
  · intro w hSw
    try dsimp only at hSw
    go_simp
    all_goals with_reducible rfl
  try simp only [pt]
  refine tkH 3 ?_ ?_ ?_
  rotate_left
  · intro w hSw
    try dsimp only at hSw
    go_simp
    all_goals with_reducible rfl
  try simp only [pt]
  refine tkH 4 ?_ ?_ ?_
  rotate_left
  · intro w hSw
    try dsimp only at hSw
    go_simp
    all_goals with_reducible rfl
  try simp only [pt]
  refine tkH 5 ?_ ?_ ?_
  rotate_left
  · intro w hSw
    try dsimp only at hSw
    go_simp
    all_goals with_reducible rfl
  try simp only [pt]
  refine wpAnyH_ready (rs := [6]) (by kernel_rfl) (by simp) ?_
  refine rdH (fun K hK => ?_) ?_
  · go_simp
    refine HP.out.mono ?_
    rintro e w1 ⟨a2, n2, c2, rs, rfl, x2, x3, x4, x5, x6, hb'⟩
    have hb : Below (w.alloc (.cells #[.int .i64 0, .int .i64 0, .string ⟨#[]⟩] 49)).heap.size (w.alloc (.cells #[.int .i64 0, .int .i64 0, .string ⟨#[]⟩] 49)) w1 := ⟨hb'.os, hb'.tape, hb'.output, hb'.size, hb'.block⟩
    have hb1 := Below.next HA.out hb
    have n1 := HK.out _ hb1
    have HR := Y.read_any key a s.op.length c s.op a2 n2 c2 rs (pl_of HS.out x5 x2.size x6).1 w1 n1.2 x2
    rw [(pl_of HS.out x5 x2.size x6).2] at HR
    rw [HEQ.out] at HR
    simp only [Y.vv_eq] at HR
    have HRR := Lib.hid HR
    have HB1 := Lib.hid hb1
    have HZ1 := Lib.hid (HZ.out.kept hb rfl)
    have m1 := n1.1
    clear HR x2 x3 x4 x5 x6 hb hb' hb1 HP HZ n1
    go_wp2_with fail
    refine hK.out _ _ ?_ (fun hH => ?_)
    · exact m1
    clear hK K
    try simp only [pt]
    refine wpAnyH_ready (rs := [7]) (by kernel_rfl) (by simp) ?_
    refine rdH (fun K hK => ?_) ?_
    · go_simp
      refine HRR.out.mono ?_
      rintro e w3 ⟨rfl, hb⟩
      have hz3 := HZ1.out.kept hb rfl
      obtain ⟨j0, j1, j2⟩ := Y.Vb.c hz3
      have p0 := Y.unfrozen_at hz3 0
      have p1 := Y.unfrozen_at hz3 1
      have p2 := Y.unfrozen_at hz3 2
      have hb3 := Below.next HB1.out hb
      have m3 := (HK.out _ hb3).1
      have m4 := (HK.out _ (below_set3 hb3 (Nat.le_refl _) (.int .i64 rk) (.int .i64 rn) (.string rs0))).1
      have HB3 := Lib.hid hb3
      clear hb hb3 hz3 HRR HZ1 HB1 m1
      go_wp2_with fail
      refine hK.out _ _ ?_ (fun hH => ?_)
      · exact m3
      clear hK K
      try simp only [pt]
      refine wpAnyH_ready (rs := [8]) (by kernel_rfl) (by simp) ?_
      refine rdH (fun K hK => ?_) ?_
      · go_simp
        refine hK.out _ _ ?_ (fun hH => ?_)
        · exact m4
        clear hK K
        try simp only [pt]
        refine wpAnyH_done (by kernel_rfl) ?_ _
        clear m3 m4 c6
        go_wp2
        refine bodyPost_ret (v := .agg #[.int .i64 rk, .int .i64 rn, .string rs0]) (by simp [results, Tryd.results19, go_sem, j0, j1, j2]) rfl ⟨rfl, ?_⟩
        exact below_set3 HB3.out (Nat.le_refl _) _ _ _
      exact AllReadyH.nil
    exact AllReadyH.nil
  exact AllReadyH.nil
set_option maxHeartbeats 4000000 in
theorem clen_any (ss : List Y.Ky) (hss : Y.KeyL (Y.stF s.seen) ss) (hk : s.k ≤ s.uss.length) (hn0 : s.kn.length + s.uss.length ≤ 1000) (hs : s.seen.length ≤ 1000 ∧ ∀ u ∈ s.seen, u.1.size ≤ 1000 ∧ Y.Sh u.2.2.2) (w : World) (h : Pk B w b F s) :
    Calls Tryd.prog 21 #[.pointer (some ⟨b, 0, none⟩)] w fun e w' => e = .returned (.int .i64 (ss.length : Int)) ∧ Below w.heap.size w w' := by
  have HP := Lib.hid (crounds_any hk hn0 w.drew (h.next (Below.refl _ _).drew))
  obtain ⟨jb, FJ, v, S, rs, vo, hq, rfl⟩ := h
  obtain ⟨a, c, rfl, hu, hc, hna⟩ := hq.op.is
  have HK : Hid (∀ W, Below w.heap.size w W → W.cell? ⟨b, 6, none⟩ = some (.slice a s.op.length c) ∧ IsUs W a s.op.length s.op) := Lib.hid fun W hW => ⟨(hq.next hW).c6, isUs_below hu hW⟩
  have c6 := hq.c6
  have HS := Lib.hid hs
  have HSS := Lib.hid hss
  have HCN := Lib.hid (And.intro hc hna)
  clear hq hu hk hn0 hs hc hna hss
  go_enter Tryd.func21, Tryd.ntmps21
  go_wp2_with fail
  refine wp_region_held_drew (S := fun w' => w'.cell? ⟨b, 6, none⟩ = some (.slice a s.op.length c)) (by kernel_rfl) ?_ (fun hH => ?_)
  · exact c6
  refine tkH 0 ?_ ?_ ?_
  rotate_left
  · intro w hSw
    try dsimp only at hSw
    go_simp
    all_goals with_reducible rfl
  try simp only [pt]
  refine tkH 1 ?_ ?_ ?_
  rotate_left
  · intro w hSw
    try dsimp only at hSw
    go_simp
    all_goals with_reducible rfl
  try simp only [pt]
  refine tkH 2 ?_ ?_ ?_
  rotate_left
  · intro w hSw
    try dsimp only at hSw
    go_simp
    all_goals with_reducible rfl
  try simp only [pt]
  refine tkH 3 ?_ ?_ ?_
  rotate_left
  · intro w hSw
    try dsimp only at hSw
    go_simp
    all_goals with_reducible rfl
  try simp only [pt]
  refine tkH 4 ?_ ?_ ?_
  rotate_left
  · intro w hSw
    try dsimp only at hSw
    go_simp
    all_goals with_reducible rfl
  try simp only [pt]
  refine wpAnyH_ready (rs := [5]) (by kernel_rfl) (by simp) ?_
  refine rdH (fun K hK => ?_) ?_
  · go_simp
    refine HP.out.mono ?_
    rintro e w1 ⟨a2, n2, c2, rs, rfl, x2, x3, x4, x5, x6, hb'⟩
    have hb1 : Below w.heap.size w w1 := ⟨hb'.os, hb'.tape, hb'.output, hb'.size, hb'.block⟩
    have n1 := HK.out _ hb1
    have HR := Y.lens_any a s.op.length c s.op a2 n2 c2 rs (pl_of HS.out x5 x2.size x6).1 ss (by rw [(pl_of HS.out x5 x2.size x6).2]; exact HSS.out) w1 n1.2 x2
    have HRR := Lib.hid HR
    have HB1 := Lib.hid hb1
    have m1 := n1.1
    clear HR x2 x3 x4 x5 x6 hb' hb1 HP n1
    go_wp2_with fail
    refine hK.out _ _ ?_ (fun hH => ?_)
    · exact m1
    clear hK K
    try simp only [pt]
    refine wpAnyH_ready (rs := [6]) (by kernel_rfl) (by simp) ?_
    refine rdH (fun K hK => ?_) ?_
    · go_simp
      refine HRR.out.mono ?_
      rintro e w3 ⟨rfl, hb⟩
      have hb3 := Below.next HB1.out hb
      have m3 := (HK.out _ hb3).1
      have HB3 := Lib.hid hb3
      clear hb hb3 HRR HB1 m1
      go_wp2_with fail
      refine hK.out _ _ ?_ (fun hH => ?_)
      · exact m3
      clear hK K
      try simp only [pt]
      refine tkH 7 ?_ ?_ ?_
      rotate_left
      · intro w hSw
        try dsimp only at hSw
        go_simp
        all_goals with_reducible rfl
      try simp only [pt]
      refine wpAnyH_done (by kernel_rfl) ?_ _
      clear m3 c6
      go_wp2
      go_ret
      exact ⟨rfl, HB3.out⟩
    exact AllReadyH.nil
  exact AllReadyH.nil
end
end Go.Proofs.YtbbgibekplfacaaDoor
