/- The program's Update. -/
import Derived.Test.YtbbgibekplfacaaDoorRH
import Derived.Test.YtbbgibekplfacaaDoorN4
namespace Go.Proofs.YtbbgibekplfacaaDoor
open Go Go.RowKit
set_option maxRecDepth 20000
theorem isUs_one (w : World) (u : Up) : IsUs (w.alloc (.cells #[.string u.1, .int .i64 u.2.1, .int .i64 u.2.2.1, .string u.2.2.2] 32)) (some ⟨w.heap.size, 0, none⟩) 1 [u] := by
  have h : Rw (w.alloc (.cells #[.string u.1, .int .i64 u.2.1, .int .i64 u.2.2.1, .string u.2.2.2] 32)) w.heap.size [u] := heap_alloc_new _ _
  exact h.is
theorem Rw.rowU {B : Nat} {w : World} {g : Nat} {us : List Up} (h : Rw w g us) (hB : B ≤ g) (hl : us.length ≤ 1000000) : RowU B w (.slice (some ⟨g, 0, none⟩) us.length us.length) us :=
  ⟨flU_len us, .inr ⟨g, us.length, _, rfl, hB, h, Nat.le_refl _, by unfold maxLen; omega, by simp [flU_len], List.take_of_length_le (by simp [flU_len])⟩⟩
theorem upd_no {s : Cs} {u : Up} (h : ¬ s.updE u = 0) : s.upd u = s := by
  unfold Cs.upd updO
  rw [if_neg (show ¬ updE s.mtu s.op u = 0 from h)]
theorem pk_open {B b jb : Nat} {w : World} {FJ S : Nat → Prop} {v vo : Value} {rs : List Rn} {s : Cs} (h : Pq B w b jb FJ v S rs vo s) (op' : List Up) (g : Nat) (hr : Rw w g op') (hB : B ≤ g) (hg : ∀ x, Pf b v S FJ vo x → x ≠ g) :
    Pk B (w.setCell ⟨b, 6, none⟩ (.slice (some ⟨g, 0, none⟩) op'.length op'.length)) b (Pf b v S FJ (.slice (some ⟨g, 0, none⟩) op'.length op'.length)) { s with op := op' } := by
  have hgb : g ≠ b := fun e => hg b (.inl (.inl rfl)) e.symm
  refine ⟨jb, FJ, v, S, rs, _, ⟨h.kn.set (by decide) (by decide) 6 _, h.mp, h.jx.setnew (h.ap b (.inl rfl)) _ _, .inr ⟨g, rfl, hr.setnew hgb _ _, hB⟩, h.ap, fun x hx => ?_⟩, rfl⟩
  simp only [Value.ownBlock, Option.some.injEq] at hx
  subst hx
  exact ⟨fun hx => hg _ (.inl hx) rfl, fun hx => hg _ (.inr (.inl hx)) rfl⟩
section
variable {B b : Nat} {F : Nat → Prop} {s : Cs}
set_option maxHeartbeats 8000000 in
theorem cupd_may (uk : ByteArray) (ux un : Int) (ut : ByteArray) (hm : ¬ mayE (uk, ux, un, ut) = 0) (w : World) :
    Calls Tryd.prog 24 #[.pointer (some ⟨b, 0, none⟩), .agg #[.string uk, .int .i64 ux, .int .i64 un, .string ut]] w fun e w' => e = .returned (.int .i64 (mayE (uk, ux, un, ut))) ∧ Below w.heap.size w w' := by
  have hA := Joins.below_alloc1 w (.cells #[.string uk, .int .i64 ux, .int .i64 un, .string ut] 32)
  have HM := fun W => Lib.hid (may_any (uk, ux, un, ut) W)
  simp only [uu] at HM
  obtain ⟨er, her⟩ : ∃ er, mayE (uk, ux, un, ut) = er := ⟨_, rfl⟩
  have k1 : (er != 0) = true := by rw [bne_iff_ne]; rw [← her]; exact hm
  rw [her] at HM ⊢
  clear her
  have hbx : Ub (w.alloc (.cells #[.string uk, .int .i64 ux, .int .i64 un, .string ut] 32)) w.heap.size (uk, ux, un, ut) := Ub.new w (uk, ux, un, ut)
  have d0 := hbx.c0
  have d1 := hbx.c1
  have d2 := hbx.c2
  have d3 := hbx.c3
  simp only at d0 d1 d2 d3
  have HBX := Lib.hid hbx
  have HA := Lib.hid hA
  clear hA hbx hm
  go_enter Tryd.func24, Tryd.ntmps24
  go_wp2_with fail
  refine (HM _).out.mono ?_
  rintro e w1 ⟨rfl, hb⟩
  have hbx1 := HBX.out.kept (grownOf none hb) (by simp)
  have HB1 := Lib.hid (Below.next HA.out hb)
  clear hb hbx1 HM d0 d1 d2 d3
  go_wp2
  go_ret
  exact ⟨rfl, HB1.out⟩
set_option maxHeartbeats 8000000 in
theorem cupd_long (uk : ByteArray) (ux un : Int) (ut : ByteArray) (hm : mayE (uk, ux, un, ut) = 0) (hf : X.fitsB [(uk, ux, un, ut)] s.mtu = false) (w : World) (hd : X.Wd w) (h : Pk B w b F s) :
    Calls Tryd.prog 24 #[.pointer (some ⟨b, 0, none⟩), .agg #[.string uk, .int .i64 ux, .int .i64 un, .string ut]] w fun e w' => e = .returned (.int .i64 3) ∧ Below w.heap.size w w' := by
  have hA := Joins.below_alloc1 w (.cells #[.string uk, .int .i64 ux, .int .i64 un, .string ut] 32)
  have HM := fun W => Lib.hid (may_any (uk, ux, un, ut) W)
  simp only [uu] at HM
  rw [hm] at HM
  have hbx : Ub (w.alloc (.cells #[.string uk, .int .i64 ux, .int .i64 un, .string ut] 32)) w.heap.size (uk, ux, un, ut) := Ub.new w (uk, ux, un, ut)
  have d0 := hbx.c0
  have d1 := hbx.c1
  have d2 := hbx.c2
  have d3 := hbx.c3
  simp only at d0 d1 d2 d3
  have HBX := Lib.hid hbx
  have HA := Lib.hid hA
  have HD := Lib.hid hd
  have HK : Hid (∀ W, Below w.heap.size w W → W.cell? ⟨b, 2, none⟩ = some (.int .i64 s.mtu) ∧ Pk B W b F s) := Lib.hid fun W hW => ⟨by
    obtain ⟨jb, FJ, v, S, rs, vo, hq, rfl⟩ := h
    exact (hq.next hW).c2, h.next hW⟩
  have HBK2 : Hid (∀ W, Below w.heap.size w W → Ub W w.heap.size (uk, ux, un, ut) → W.cell? ⟨w.heap.size, 0, none⟩ = some (.string uk) ∧ W.cell? ⟨w.heap.size, 1, none⟩ = some (.int .i64 ux) ∧ W.cell? ⟨w.heap.size, 2, none⟩ = some (.int .i64 un) ∧ W.cell? ⟨w.heap.size, 3, none⟩ = some (.string ut)) := Lib.hid fun W _ hu => ⟨hu.c0, hu.c1, hu.c2, hu.c3⟩
  have HBK : Hid (∀ W, Below (w.alloc (.cells #[.string uk, .int .i64 ux, .int .i64 un, .string ut] 32)).heap.size (w.alloc (.cells #[.string uk, .int .i64 ux, .int .i64 un, .string ut] 32)) W → W.cell? ⟨w.heap.size, 0, none⟩ = some (.string uk) ∧ W.cell? ⟨w.heap.size, 1, none⟩ = some (.int .i64 ux) ∧ W.cell? ⟨w.heap.size, 2, none⟩ = some (.int .i64 un) ∧ W.cell? ⟨w.heap.size, 3, none⟩ = some (.string ut)) := Lib.hid fun W hW => by
    have hu := HBX.out.kept (grownOf none hW) (by simp)
    exact ⟨hu.c0, hu.c1, hu.c2, hu.c3⟩
  have HF1 := fun (g : Nat) W hd hu => Lib.hid (X.rndfits_any (some ⟨g, 0, none⟩) 1 1 [(uk, ux, un, ut)] s.mtu W hd hu)
  rw [hf] at HF1
  clear hA hbx hd h hm hf
  go_enter Tryd.func24, Tryd.ntmps24
  go_wp2_with fail
  refine (HM _).out.mono ?_
  rintro e w1 ⟨rfl, hb⟩
  have hbx1 := HBX.out.kept (grownOf none hb) (by simp)
  have HB1 := Lib.hid (Below.next HA.out hb)
  have n1 := (HK.out _ HB1.out).1
  have HBX1 := Lib.hid hbx1
  have m1 := HBK.out _ hb
  clear hb hbx1 HM d0 d1 d2 d3
  go_wp2_with fail
  refine wp_region_held_drew (S := fun w' => w'.cell? ⟨b, 2, none⟩ = some (.int .i64 s.mtu) ∧ w'.cell? ⟨w.heap.size, 0, none⟩ = some (.string uk) ∧ w'.cell? ⟨w.heap.size, 1, none⟩ = some (.int .i64 ux) ∧ w'.cell? ⟨w.heap.size, 2, none⟩ = some (.int .i64 un) ∧ w'.cell? ⟨w.heap.size, 3, none⟩ = some (.string ut)) (by kernel_rfl) ?_ (fun hH => ?_)
  · exact ⟨n1, m1⟩
  refine tkH 0 ?_ ?_ ?_
  rotate_left
  · intro w h; try dsimp only at h
    obtain ⟨q0, q1, q2, q3, q4⟩ := h; go_simp; all_goals with_reducible rfl
  try simp only [pt]
  refine tkH 2 ?_ ?_ ?_
  rotate_left
  · intro w h; try dsimp only at h
    obtain ⟨q0, q1, q2, q3, q4⟩ := h; go_simp; all_goals with_reducible rfl
  try simp only [pt]
  refine tkH 3 ?_ ?_ ?_
  rotate_left
  · intro w h; try dsimp only at h
    obtain ⟨q0, q1, q2, q3, q4⟩ := h; go_simp; all_goals with_reducible rfl
  try simp only [pt]
  refine tkH 4 ?_ ?_ ?_
  rotate_left
  · intro w h; try dsimp only at h
    obtain ⟨q0, q1, q2, q3, q4⟩ := h; go_simp; all_goals with_reducible rfl
  try simp only [pt]
  refine tkH 5 ?_ ?_ ?_
  rotate_left
  · intro w h; try dsimp only at h
    obtain ⟨q0, q1, q2, q3, q4⟩ := h; go_simp; all_goals with_reducible rfl
  try simp only [pt]
  refine wpAnyH_ready (rs := [1]) (by kernel_rfl) (by simp) ?_
  refine rdH (fun K hK => ?_) ?_
  · have hb2 := Below.step HB1.out (.cells #[.string uk, .int .i64 ux, .int .i64 un, .string ut] 32) (Below.refl _ _)
    have n2 := (HK.out _ hb2).1
    have m2 := HBK2.out _ hb2 (HBX1.out.alloc (.cells #[.string uk, .int .i64 ux, .int .i64 un, .string ut] 32))
    have HB2 := Lib.hid hb2
    have HX2 := Lib.hid (HBX1.out.alloc (.cells #[.string uk, .int .i64 ux, .int .i64 un, .string ut] 32))
    clear hb2
    go_simp
    refine hK.out _ _ ?_ (fun hH => ?_)
    · exact ⟨n2, m2⟩
    clear hK K
    try simp only [pt]
    refine wpAnyH_ready (rs := [6]) (by kernel_rfl) (by simp) ?_
    refine rdH (fun K hK => ?_) ?_
    · go_simp
      refine (HF1 _ _ (HD.out.below HB2.out.drew) (isUs_same (isUs_one w1 (uk, ux, un, ut)) fun _ _ _ => rfl)).out.mono ?_
      rintro e w3 ⟨rfl, hb'⟩
      have hb : Below (w1.alloc (.cells #[.string uk, .int .i64 ux, .int .i64 un, .string ut] 32)).heap.size (w1.alloc (.cells #[.string uk, .int .i64 ux, .int .i64 un, .string ut] 32)) w3 := ⟨hb'.os, hb'.tape, hb'.output, hb'.size, hb'.block⟩
      have hb3 := Below.next HB2.out hb
      have hx3 := HX2.out.kept (grownOf none hb) (by simp)
      have n3 := (HK.out _ hb3).1
      have m3 := HBK2.out _ hb3 hx3
      have HB3 := Lib.hid hb3
      have HX3 := Lib.hid hx3
      clear hb hb' hb3 hx3 n2 m2 HB2 HX2
      go_wp2_with fail
      refine hK.out _ _ ?_ (fun hH => ?_)
      · exact ⟨n3, m3⟩
      clear hK K
      try simp only [pt]
      refine tkH 7 ?_ ?_ ?_
      rotate_left
      · intro w h; try dsimp only at h
        obtain ⟨q0, q1, q2, q3, q4⟩ := h; go_simp; all_goals with_reducible rfl
      try simp only [pt]
      refine wpAnyH_done (by kernel_rfl) ?_ _
      clear n1 m1
      clear n3 m3
      go_wp2
      go_ret
      exact ⟨rfl, HB3.out⟩
    exact AllReadyH.nil
  exact AllReadyH.nil
set_option maxHeartbeats 8000000 in
theorem cupd_full (uk : ByteArray) (ux un : Int) (ut : ByteArray) (hm : mayE (uk, ux, un, ut) = 0) (hf : X.fitsB [(uk, ux, un, ut)] s.mtu = true) (hf2 : X.fitsB (s.op ++ [(uk, ux, un, ut)]) s.mtu = false) (h8 : s.op.length ≤ 8) (hsm : Sm s.op) (hsm2 : Sm (s.op ++ [(uk, ux, un, ut)])) (w : World) (hd : X.Wd w) (h : Pk B w b F s) :
    Calls Tryd.prog 24 #[.pointer (some ⟨b, 0, none⟩), .agg #[.string uk, .int .i64 ux, .int .i64 un, .string ut]] w fun e w' => e = .returned (.int .i64 7) ∧ Below w.heap.size w w' := by
  have hA := Joins.below_alloc1 w (.cells #[.string uk, .int .i64 ux, .int .i64 un, .string ut] 32)
  have HM := fun W => Lib.hid (may_any (uk, ux, un, ut) W)
  simp only [uu] at HM
  rw [hm] at HM
  have hbx : Ub (w.alloc (.cells #[.string uk, .int .i64 ux, .int .i64 un, .string ut] 32)) w.heap.size (uk, ux, un, ut) := Ub.new w (uk, ux, un, ut)
  have d0 := hbx.c0
  have d1 := hbx.c1
  have d2 := hbx.c2
  have d3 := hbx.c3
  simp only at d0 d1 d2 d3
  have HBX := Lib.hid hbx
  have HA := Lib.hid hA
  have HD := Lib.hid hd
  have HK : Hid (∀ W, Below w.heap.size w W → W.cell? ⟨b, 2, none⟩ = some (.int .i64 s.mtu) ∧ Pk B W b F s) := Lib.hid fun W hW => ⟨by
    obtain ⟨jb, FJ, v, S, rs, vo, hq, rfl⟩ := h
    exact (hq.next hW).c2, h.next hW⟩
  have HBK2 : Hid (∀ W, Below w.heap.size w W → Ub W w.heap.size (uk, ux, un, ut) → W.cell? ⟨w.heap.size, 0, none⟩ = some (.string uk) ∧ W.cell? ⟨w.heap.size, 1, none⟩ = some (.int .i64 ux) ∧ W.cell? ⟨w.heap.size, 2, none⟩ = some (.int .i64 un) ∧ W.cell? ⟨w.heap.size, 3, none⟩ = some (.string ut)) := Lib.hid fun W _ hu => ⟨hu.c0, hu.c1, hu.c2, hu.c3⟩
  have HBK : Hid (∀ W, Below (w.alloc (.cells #[.string uk, .int .i64 ux, .int .i64 un, .string ut] 32)).heap.size (w.alloc (.cells #[.string uk, .int .i64 ux, .int .i64 un, .string ut] 32)) W → W.cell? ⟨w.heap.size, 0, none⟩ = some (.string uk) ∧ W.cell? ⟨w.heap.size, 1, none⟩ = some (.int .i64 ux) ∧ W.cell? ⟨w.heap.size, 2, none⟩ = some (.int .i64 un) ∧ W.cell? ⟨w.heap.size, 3, none⟩ = some (.string ut)) := Lib.hid fun W hW => by
    have hu := HBX.out.kept (grownOf none hW) (by simp)
    exact ⟨hu.c0, hu.c1, hu.c2, hu.c3⟩
  have HF1 := fun (g : Nat) W hd hu => Lib.hid (X.rndfits_any (some ⟨g, 0, none⟩) 1 1 [(uk, ux, un, ut)] s.mtu W hd hu)
  rw [hf] at HF1
  have HF2 := fun a c W hd hu => Lib.hid (X.rndfits_any a (s.op.length + 1) c (s.op ++ [(uk, ux, un, ut)]) s.mtu W hd hu)
  rw [hf2] at HF2
  have HO := fun W h => Lib.hid (copen_any (B := B) (b := b) (F := F) hsm W h)
  have HCP := fun a c W hu => Lib.hid (copied_any a (s.op.length + 1) c (s.op ++ [(uk, ux, un, ut)]) hsm2 W hu)
  have H8 := Lib.hid h8
  have HOL : Hid ((s.op ++ [(uk, ux, un, ut)]).length = s.op.length + 1) := Lib.hid (by simp)
  have HFT := Lib.hid h.foot
  have HLW : Hid (B ≤ w.heap.size) := Lib.hid (Nat.le_trans (h.foot b h.me).1 (Nat.le_of_lt (h.foot b h.me).2))
  clear hA hbx hd h hm hf hf2 h8 hsm hsm2
  go_enter Tryd.func24, Tryd.ntmps24
  go_wp2_with fail
  refine (HM _).out.mono ?_
  rintro e w1 ⟨rfl, hb⟩
  have hbx1 := HBX.out.kept (grownOf none hb) (by simp)
  have HB1 := Lib.hid (Below.next HA.out hb)
  have n1 := (HK.out _ HB1.out).1
  have HBX1 := Lib.hid hbx1
  have m1 := HBK.out _ hb
  clear hb hbx1 HM d0 d1 d2 d3
  go_wp2_with fail
  refine wp_region_held_drew (S := fun w' => w'.cell? ⟨b, 2, none⟩ = some (.int .i64 s.mtu) ∧ w'.cell? ⟨w.heap.size, 0, none⟩ = some (.string uk) ∧ w'.cell? ⟨w.heap.size, 1, none⟩ = some (.int .i64 ux) ∧ w'.cell? ⟨w.heap.size, 2, none⟩ = some (.int .i64 un) ∧ w'.cell? ⟨w.heap.size, 3, none⟩ = some (.string ut)) (by kernel_rfl) ?_ (fun hH => ?_)
  · exact ⟨n1, m1⟩
  refine tkH 0 ?_ ?_ ?_
  rotate_left
  · intro w h; try dsimp only at h
    obtain ⟨q0, q1, q2, q3, q4⟩ := h; go_simp; all_goals with_reducible rfl
  try simp only [pt]
  refine tkH 2 ?_ ?_ ?_
  rotate_left
  · intro w h; try dsimp only at h
    obtain ⟨q0, q1, q2, q3, q4⟩ := h; go_simp; all_goals with_reducible rfl
  try simp only [pt]
  refine tkH 3 ?_ ?_ ?_
  rotate_left
  · intro w h; try dsimp only at h
    obtain ⟨q0, q1, q2, q3, q4⟩ := h; go_simp; all_goals with_reducible rfl
  try simp only [pt]
  refine tkH 4 ?_ ?_ ?_
  rotate_left
  · intro w h; try dsimp only at h
    obtain ⟨q0, q1, q2, q3, q4⟩ := h; go_simp; all_goals with_reducible rfl
  try simp only [pt]
  refine tkH 5 ?_ ?_ ?_
  rotate_left
  · intro w h; try dsimp only at h
    obtain ⟨q0, q1, q2, q3, q4⟩ := h; go_simp; all_goals with_reducible rfl
  try simp only [pt]
  refine wpAnyH_ready (rs := [1]) (by kernel_rfl) (by simp) ?_
  refine rdH (fun K hK => ?_) ?_
  · have hb2 := Below.step HB1.out (.cells #[.string uk, .int .i64 ux, .int .i64 un, .string ut] 32) (Below.refl _ _)
    have n2 := (HK.out _ hb2).1
    have m2 := HBK2.out _ hb2 (HBX1.out.alloc (.cells #[.string uk, .int .i64 ux, .int .i64 un, .string ut] 32))
    have HB2 := Lib.hid hb2
    have HX2 := Lib.hid (HBX1.out.alloc (.cells #[.string uk, .int .i64 ux, .int .i64 un, .string ut] 32))
    clear hb2
    go_simp
    refine hK.out _ _ ?_ (fun hH => ?_)
    · exact ⟨n2, m2⟩
    clear hK K
    try simp only [pt]
    refine wpAnyH_ready (rs := [6]) (by kernel_rfl) (by simp) ?_
    refine rdH (fun K hK => ?_) ?_
    · go_simp
      refine (HF1 _ _ (HD.out.below HB2.out.drew) (isUs_same (isUs_one w1 (uk, ux, un, ut)) fun _ _ _ => rfl)).out.mono ?_
      rintro e w3 ⟨rfl, hb'⟩
      have hb : Below (w1.alloc (.cells #[.string uk, .int .i64 ux, .int .i64 un, .string ut] 32)).heap.size (w1.alloc (.cells #[.string uk, .int .i64 ux, .int .i64 un, .string ut] 32)) w3 := ⟨hb'.os, hb'.tape, hb'.output, hb'.size, hb'.block⟩
      have hb3 := Below.next HB2.out hb
      have hx3 := HX2.out.kept (grownOf none hb) (by simp)
      have n3 := (HK.out _ hb3).1
      have m3 := HBK2.out _ hb3 hx3
      have HB3 := Lib.hid hb3
      have HX3 := Lib.hid hx3
      clear hb hb' hb3 hx3 n2 m2 HB2 HX2
      go_wp2_with fail
      refine hK.out _ _ ?_ (fun hH => ?_)
      · exact ⟨n3, m3⟩
      clear hK K
      try simp only [pt]
      refine tkH 7 ?_ ?_ ?_
      rotate_left
      · intro w h; try dsimp only at h
        obtain ⟨q0, q1, q2, q3, q4⟩ := h; go_simp; all_goals with_reducible rfl
      try simp only [pt]
      refine wpAnyH_done (by kernel_rfl) ?_ _
      clear n1 m1
      have z3 := m3
      clear n3 m3 HF1
      go_wp2_with fail
      refine wp_region_held_drew (S := fun w' => w'.cell? ⟨w.heap.size, 0, none⟩ = some (.string uk) ∧ w'.cell? ⟨w.heap.size, 1, none⟩ = some (.int .i64 ux) ∧ w'.cell? ⟨w.heap.size, 2, none⟩ = some (.int .i64 un) ∧ w'.cell? ⟨w.heap.size, 3, none⟩ = some (.string ut)) (by kernel_rfl) ?_ (fun hH => ?_)
      · exact z3
      refine tkH 0 ?_ ?_ ?_
      rotate_left
      · intro w h; try dsimp only at h
        obtain ⟨q1, q2, q3, q4⟩ := h; go_simp; all_goals with_reducible rfl
      try simp only [pt]
      refine tkH 2 ?_ ?_ ?_
      rotate_left
      · intro w h; try dsimp only at h
        obtain ⟨q1, q2, q3, q4⟩ := h; go_simp; all_goals with_reducible rfl
      try simp only [pt]
      refine wpAnyH_ready (rs := [1, 3]) (by kernel_rfl) (by simp) ?_
      refine rdH (fun K hK => ?_) ?_
      · go_simp
        refine (HO (w3).drew (((HK.out _ HB3.out).2).asit rfl)).out.mono ?_
        rintro e w4 ⟨rfl, hrw', hb'⟩
        have hrw : Rw w4 (w3.heap.size + 2) s.op := by
          have hx := hrw'
          simp at hx
          exact hx
        have hb : Below (w3).heap.size (w3) w4 := ⟨hb'.os, hb'.tape, hb'.output, hb'.size, hb'.block⟩
        have hb4 := Below.next HB3.out hb
        have hx4 := HX3.out.kept (grownOf none hb) (by simp)
        have z4 := HBK2.out _ hb4 hx4
        have HB4 := Lib.hid hb4
        have HX4 := Lib.hid hx4
        have HRW := Lib.hid hrw
        clear hrw
        clear hb hb' hb4 hx4 hrw'
        go_wp2_with fail
        refine hK.out _ _ ?_ (fun hH => ?_)
        · exact z4
        clear hK K
        try simp only [pt]
        refine wpAnyH_ready (rs := [3]) (by kernel_rfl) (by simp) ?_
        refine rdH (fun K hK => ?_) ?_
        · have hb5 := Below.step HB4.out (.cells #[.string uk, .int .i64 ux, .int .i64 un, .string ut] 32) (Below.refl _ _)
          have hx5 := HX4.out.alloc (.cells #[.string uk, .int .i64 ux, .int .i64 un, .string ut] 32)
          have z5 := HBK2.out _ hb5 hx5
          have HB5 := Lib.hid hb5
          have HX5 := Lib.hid hx5
          have HONE := Lib.hid (isUs_one w4 (uk, ux, un, ut))
          have HROW := Lib.hid ((HRW.out.alloc (.cells #[.string uk, .int .i64 ux, .int .i64 un, .string ut] 32)).rowU (B := w.heap.size) (by have := HB3.out.size; omega) (by have := H8.out; omega))
          clear hb5 hx5
          go_simp
          refine hK.out _ _ ?_ (fun hH => ?_)
          · exact z5
          clear hK K
          try simp only [pt]
          refine wpAnyH_ready (rs := [4]) (by kernel_rfl) (by simp) ?_
          refine rdH (fun K hK => ?_) ?_
          · obtain ⟨a6, c6', w6, hrun, hr6, hg6, _⟩ := run_appU (w4.alloc (.cells #[.string uk, .int .i64 ux, .int .i64 un, .string ut] 32)) 33 w.heap.size _ s.op HROW.out (some ⟨w4.heap.size, 0, none⟩) 1 1 [(uk, ux, un, ut)] HONE.out (Nat.le_refl _) (fun e => by cases e) (by have := H8.out; omega) (by have := HB5.out.size; exact this)
            have hb6 := belU HROW.out HB5.out hg6 HB5.out.size
            have hx6 := HX5.out.kept hg6 (by simp only [Value.ownBlock]; intro e; have e2 := Option.some.inj e; have := HB3.out.size; omega)
            have z6 := HBK2.out _ hb6 hx6
            have HB6 := Lib.hid hb6
            have HI6 := Lib.hid (hr6.isU (by simp)).1
            clear hx6 hb6 hr6 hg6
            refine step_append_run (by rfl) (.tmp 21) (.tmp 23) 33 rfl _ _ _ rfl rfl hrun ?_
            refine hK.out _ _ ?_ (fun hH => ?_)
            · exact z6
            clear hK K
            try simp only [pt]
            refine tkH 5 ?_ ?_ ?_
            rotate_left
            · intro w h; try dsimp only at h
              obtain ⟨q1, q2, q3, q4⟩ := h; go_simp; all_goals with_reducible rfl
            try simp only [pt]
            refine wpAnyH_done (by kernel_rfl) ?_ _
            clear z3 hrun
            have c2 := (HK.out _ HB6.out).1
            clear z6
            go_wp2_with fail
            refine (HF2 _ _ _ (HD.out.below HB6.out) HI6.out).out.mono ?_
            rintro e w7 ⟨rfl, hb⟩
            have HB7 := Lib.hid (Below.next HB6.out hb)
            have HI7 := Lib.hid (isUs_below HI6.out hb)
            clear hb c2 HI6 HF2
            go_wp2
            go_ret
            exact ⟨rfl, HB7.out⟩
          exact AllReadyH.nil
        exact AllReadyH.nil
      refine rdH (fun K hK => ?_) ?_
      · have hb4 := Below.step HB3.out (.cells #[.string uk, .int .i64 ux, .int .i64 un, .string ut] 32) (Below.refl _ _)
        have hx4 := HX3.out.alloc (.cells #[.string uk, .int .i64 ux, .int .i64 un, .string ut] 32)
        have z4 := HBK2.out _ hb4 hx4
        have HB4 := Lib.hid hb4
        have HX4 := Lib.hid hx4
        have HONE0 := Lib.hid (isUs_one w3 (uk, ux, un, ut))
        clear hb4 hx4
        go_simp
        refine hK.out _ _ ?_ (fun hH => ?_)
        · exact z4
        clear hK K
        try simp only [pt]
        refine wpAnyH_ready (rs := [1]) (by kernel_rfl) (by simp) ?_
        refine rdH (fun K hK => ?_) ?_
        · go_simp
          refine (HO (w3.alloc (.cells #[.string uk, .int .i64 ux, .int .i64 un, .string ut] 32)).drew (((HK.out _ HB4.out).2).asit rfl)).out.mono ?_
          rintro e w5 ⟨rfl, hrw', hb'⟩
          have hrw : Rw w5 (w3.heap.size + 1 + 2) s.op := by
            have hx := hrw'
            simp at hx
            exact hx
          have hb : Below (w3.alloc (.cells #[.string uk, .int .i64 ux, .int .i64 un, .string ut] 32)).heap.size (w3.alloc (.cells #[.string uk, .int .i64 ux, .int .i64 un, .string ut] 32)) w5 := ⟨hb'.os, hb'.tape, hb'.output, hb'.size, hb'.block⟩
          have hb5 := Below.next HB4.out hb
          have hx5 := HX4.out.kept (grownOf none hb) (by simp)
          have z5 := HBK2.out _ hb5 hx5
          have HB5 := Lib.hid hb5
          have HX5 := Lib.hid hx5
          have HONE := Lib.hid (isUs_below HONE0.out hb)
          have HROW := Lib.hid (hrw.rowU (B := w.heap.size) (by have := HB3.out.size; omega) (by have := H8.out; omega))
          clear hrw
          clear hb hb' hb5 hx5 hrw'
          go_wp2_with fail
          refine hK.out _ _ ?_ (fun hH => ?_)
          · exact z5
          clear hK K
          try simp only [pt]
          refine wpAnyH_ready (rs := [4]) (by kernel_rfl) (by simp) ?_
          refine rdH (fun K hK => ?_) ?_
          · obtain ⟨a6, c6', w6, hrun, hr6, hg6, _⟩ := run_appU w5 33 w.heap.size _ s.op HROW.out (some ⟨w3.heap.size, 0, none⟩) 1 1 [(uk, ux, un, ut)] HONE.out (Nat.le_refl _) (fun e => by cases e) (by have := H8.out; omega) (by have := HB5.out.size; exact this)
            have hb6 := belU HROW.out HB5.out hg6 HB5.out.size
            have hx6 := HX5.out.kept hg6 (by simp only [Value.ownBlock]; intro e; have e2 := Option.some.inj e; have := HB3.out.size; omega)
            have z6 := HBK2.out _ hb6 hx6
            have HB6 := Lib.hid hb6
            have HI6 := Lib.hid (hr6.isU (by simp)).1
            clear hx6 hb6 hr6 hg6
            refine step_append_run (by rfl) (.tmp 21) (.tmp 23) 33 rfl _ _ _ rfl rfl hrun ?_
            refine hK.out _ _ ?_ (fun hH => ?_)
            · exact z6
            clear hK K
            try simp only [pt]
            refine tkH 5 ?_ ?_ ?_
            rotate_left
            · intro w h; try dsimp only at h
              obtain ⟨q1, q2, q3, q4⟩ := h; go_simp; all_goals with_reducible rfl
            try simp only [pt]
            refine wpAnyH_done (by kernel_rfl) ?_ _
            clear z3 hrun
            have c2 := (HK.out _ HB6.out).1
            clear z6
            go_wp2_with fail
            refine (HF2 _ _ _ (HD.out.below HB6.out) HI6.out).out.mono ?_
            rintro e w7 ⟨rfl, hb⟩
            have HB7 := Lib.hid (Below.next HB6.out hb)
            have HI7 := Lib.hid (isUs_below HI6.out hb)
            clear hb c2 HI6 HF2
            go_wp2
            go_ret
            exact ⟨rfl, HB7.out⟩
          exact AllReadyH.nil
        exact AllReadyH.nil
      exact AllReadyH.nil
    exact AllReadyH.nil
  exact AllReadyH.nil
set_option maxHeartbeats 8000000 in
theorem cupd_ok (uk : ByteArray) (ux un : Int) (ut : ByteArray) (hm : mayE (uk, ux, un, ut) = 0) (hf : X.fitsB [(uk, ux, un, ut)] s.mtu = true) (hf2 : X.fitsB (s.op ++ [(uk, ux, un, ut)]) s.mtu = true) (h8 : s.op.length ≤ 8) (hsm : Sm s.op) (hsm2 : Sm (s.op ++ [(uk, ux, un, ut)])) (w : World) (hd : X.Wd w) (h : Pk B w b F s) :
    Calls Tryd.prog 24 #[.pointer (some ⟨b, 0, none⟩), .agg #[.string uk, .int .i64 ux, .int .i64 un, .string ut]] w fun e w' => e = .returned (.int .i64 0) ∧ ∃ F', PkW B w w' b F F' { s with op := s.op ++ [(uk, ux, un, ut)] } := by
  have hA := Joins.below_alloc1 w (.cells #[.string uk, .int .i64 ux, .int .i64 un, .string ut] 32)
  have HM := fun W => Lib.hid (may_any (uk, ux, un, ut) W)
  simp only [uu] at HM
  rw [hm] at HM
  have hbx : Ub (w.alloc (.cells #[.string uk, .int .i64 ux, .int .i64 un, .string ut] 32)) w.heap.size (uk, ux, un, ut) := Ub.new w (uk, ux, un, ut)
  have d0 := hbx.c0
  have d1 := hbx.c1
  have d2 := hbx.c2
  have d3 := hbx.c3
  simp only at d0 d1 d2 d3
  have HBX := Lib.hid hbx
  have HA := Lib.hid hA
  have HD := Lib.hid hd
  have HK : Hid (∀ W, Below w.heap.size w W → W.cell? ⟨b, 2, none⟩ = some (.int .i64 s.mtu) ∧ Pk B W b F s) := Lib.hid fun W hW => ⟨by
    obtain ⟨jb, FJ, v, S, rs, vo, hq, rfl⟩ := h
    exact (hq.next hW).c2, h.next hW⟩
  have HBK2 : Hid (∀ W, Below w.heap.size w W → Ub W w.heap.size (uk, ux, un, ut) → W.cell? ⟨w.heap.size, 0, none⟩ = some (.string uk) ∧ W.cell? ⟨w.heap.size, 1, none⟩ = some (.int .i64 ux) ∧ W.cell? ⟨w.heap.size, 2, none⟩ = some (.int .i64 un) ∧ W.cell? ⟨w.heap.size, 3, none⟩ = some (.string ut)) := Lib.hid fun W _ hu => ⟨hu.c0, hu.c1, hu.c2, hu.c3⟩
  have HBK : Hid (∀ W, Below (w.alloc (.cells #[.string uk, .int .i64 ux, .int .i64 un, .string ut] 32)).heap.size (w.alloc (.cells #[.string uk, .int .i64 ux, .int .i64 un, .string ut] 32)) W → W.cell? ⟨w.heap.size, 0, none⟩ = some (.string uk) ∧ W.cell? ⟨w.heap.size, 1, none⟩ = some (.int .i64 ux) ∧ W.cell? ⟨w.heap.size, 2, none⟩ = some (.int .i64 un) ∧ W.cell? ⟨w.heap.size, 3, none⟩ = some (.string ut)) := Lib.hid fun W hW => by
    have hu := HBX.out.kept (grownOf none hW) (by simp)
    exact ⟨hu.c0, hu.c1, hu.c2, hu.c3⟩
  have HF1 := fun (g : Nat) W hd hu => Lib.hid (X.rndfits_any (some ⟨g, 0, none⟩) 1 1 [(uk, ux, un, ut)] s.mtu W hd hu)
  rw [hf] at HF1
  have HF2 := fun a c W hd hu => Lib.hid (X.rndfits_any a (s.op.length + 1) c (s.op ++ [(uk, ux, un, ut)]) s.mtu W hd hu)
  rw [hf2] at HF2
  have HO := fun W h => Lib.hid (copen_any (B := B) (b := b) (F := F) hsm W h)
  have HCP := fun a c W hu => Lib.hid (copied_any a (s.op.length + 1) c (s.op ++ [(uk, ux, un, ut)]) hsm2 W hu)
  have H8 := Lib.hid h8
  have HOL : Hid ((s.op ++ [(uk, ux, un, ut)]).length = s.op.length + 1) := Lib.hid (by simp)
  have HFT := Lib.hid h.foot
  have HLW : Hid (B ≤ w.heap.size) := Lib.hid (Nat.le_trans (h.foot b h.me).1 (Nat.le_of_lt (h.foot b h.me).2))
  clear hA hbx hd h hm hf hf2 h8 hsm hsm2
  go_enter Tryd.func24, Tryd.ntmps24
  go_wp2_with fail
  refine (HM _).out.mono ?_
  rintro e w1 ⟨rfl, hb⟩
  have hbx1 := HBX.out.kept (grownOf none hb) (by simp)
  have HB1 := Lib.hid (Below.next HA.out hb)
  have n1 := (HK.out _ HB1.out).1
  have HBX1 := Lib.hid hbx1
  have m1 := HBK.out _ hb
  clear hb hbx1 HM d0 d1 d2 d3
  go_wp2_with fail
  refine wp_region_held_drew (S := fun w' => w'.cell? ⟨b, 2, none⟩ = some (.int .i64 s.mtu) ∧ w'.cell? ⟨w.heap.size, 0, none⟩ = some (.string uk) ∧ w'.cell? ⟨w.heap.size, 1, none⟩ = some (.int .i64 ux) ∧ w'.cell? ⟨w.heap.size, 2, none⟩ = some (.int .i64 un) ∧ w'.cell? ⟨w.heap.size, 3, none⟩ = some (.string ut)) (by kernel_rfl) ?_ (fun hH => ?_)
  · exact ⟨n1, m1⟩
  refine tkH 0 ?_ ?_ ?_
  rotate_left
  · intro w h; try dsimp only at h
    obtain ⟨q0, q1, q2, q3, q4⟩ := h; go_simp; all_goals with_reducible rfl
  try simp only [pt]
  refine tkH 2 ?_ ?_ ?_
  rotate_left
  · intro w h; try dsimp only at h
    obtain ⟨q0, q1, q2, q3, q4⟩ := h; go_simp; all_goals with_reducible rfl
  try simp only [pt]
  refine tkH 3 ?_ ?_ ?_
  rotate_left
  · intro w h; try dsimp only at h
    obtain ⟨q0, q1, q2, q3, q4⟩ := h; go_simp; all_goals with_reducible rfl
  try simp only [pt]
  refine tkH 4 ?_ ?_ ?_
  rotate_left
  · intro w h; try dsimp only at h
    obtain ⟨q0, q1, q2, q3, q4⟩ := h; go_simp; all_goals with_reducible rfl
  try simp only [pt]
  refine tkH 5 ?_ ?_ ?_
  rotate_left
  · intro w h; try dsimp only at h
    obtain ⟨q0, q1, q2, q3, q4⟩ := h; go_simp; all_goals with_reducible rfl
  try simp only [pt]
  refine wpAnyH_ready (rs := [1]) (by kernel_rfl) (by simp) ?_
  refine rdH (fun K hK => ?_) ?_
  · have hb2 := Below.step HB1.out (.cells #[.string uk, .int .i64 ux, .int .i64 un, .string ut] 32) (Below.refl _ _)
    have n2 := (HK.out _ hb2).1
    have m2 := HBK2.out _ hb2 (HBX1.out.alloc (.cells #[.string uk, .int .i64 ux, .int .i64 un, .string ut] 32))
    have HB2 := Lib.hid hb2
    have HX2 := Lib.hid (HBX1.out.alloc (.cells #[.string uk, .int .i64 ux, .int .i64 un, .string ut] 32))
    clear hb2
    go_simp
    refine hK.out _ _ ?_ (fun hH => ?_)
    · exact ⟨n2, m2⟩
    clear hK K
    try simp only [pt]
    refine wpAnyH_ready (rs := [6]) (by kernel_rfl) (by simp) ?_
    refine rdH (fun K hK => ?_) ?_
    · go_simp
      refine (HF1 _ _ (HD.out.below HB2.out.drew) (isUs_same (isUs_one w1 (uk, ux, un, ut)) fun _ _ _ => rfl)).out.mono ?_
      rintro e w3 ⟨rfl, hb'⟩
      have hb : Below (w1.alloc (.cells #[.string uk, .int .i64 ux, .int .i64 un, .string ut] 32)).heap.size (w1.alloc (.cells #[.string uk, .int .i64 ux, .int .i64 un, .string ut] 32)) w3 := ⟨hb'.os, hb'.tape, hb'.output, hb'.size, hb'.block⟩
      have hb3 := Below.next HB2.out hb
      have hx3 := HX2.out.kept (grownOf none hb) (by simp)
      have n3 := (HK.out _ hb3).1
      have m3 := HBK2.out _ hb3 hx3
      have HB3 := Lib.hid hb3
      have HX3 := Lib.hid hx3
      clear hb hb' hb3 hx3 n2 m2 HB2 HX2
      go_wp2_with fail
      refine hK.out _ _ ?_ (fun hH => ?_)
      · exact ⟨n3, m3⟩
      clear hK K
      try simp only [pt]
      refine tkH 7 ?_ ?_ ?_
      rotate_left
      · intro w h; try dsimp only at h
        obtain ⟨q0, q1, q2, q3, q4⟩ := h; go_simp; all_goals with_reducible rfl
      try simp only [pt]
      refine wpAnyH_done (by kernel_rfl) ?_ _
      clear n1 m1
      have z3 := m3
      clear n3 m3 HF1
      go_wp2_with fail
      refine wp_region_held_drew (S := fun w' => w'.cell? ⟨w.heap.size, 0, none⟩ = some (.string uk) ∧ w'.cell? ⟨w.heap.size, 1, none⟩ = some (.int .i64 ux) ∧ w'.cell? ⟨w.heap.size, 2, none⟩ = some (.int .i64 un) ∧ w'.cell? ⟨w.heap.size, 3, none⟩ = some (.string ut)) (by kernel_rfl) ?_ (fun hH => ?_)
      · exact z3
      refine tkH 0 ?_ ?_ ?_
      rotate_left
      · intro w h; try dsimp only at h
        obtain ⟨q1, q2, q3, q4⟩ := h; go_simp; all_goals with_reducible rfl
      try simp only [pt]
      refine tkH 2 ?_ ?_ ?_
      rotate_left
      · intro w h; try dsimp only at h
        obtain ⟨q1, q2, q3, q4⟩ := h; go_simp; all_goals with_reducible rfl
      try simp only [pt]
      refine wpAnyH_ready (rs := [1, 3]) (by kernel_rfl) (by simp) ?_
      refine rdH (fun K hK => ?_) ?_
      · go_simp
        refine (HO (w3).drew (((HK.out _ HB3.out).2).asit rfl)).out.mono ?_
        rintro e w4 ⟨rfl, hrw', hb'⟩
        have hrw : Rw w4 (w3.heap.size + 2) s.op := by
          have hx := hrw'
          simp at hx
          exact hx
        have hb : Below (w3).heap.size (w3) w4 := ⟨hb'.os, hb'.tape, hb'.output, hb'.size, hb'.block⟩
        have hb4 := Below.next HB3.out hb
        have hx4 := HX3.out.kept (grownOf none hb) (by simp)
        have z4 := HBK2.out _ hb4 hx4
        have HB4 := Lib.hid hb4
        have HX4 := Lib.hid hx4
        have HRW := Lib.hid hrw
        clear hrw
        clear hb hb' hb4 hx4 hrw'
        go_wp2_with fail
        refine hK.out _ _ ?_ (fun hH => ?_)
        · exact z4
        clear hK K
        try simp only [pt]
        refine wpAnyH_ready (rs := [3]) (by kernel_rfl) (by simp) ?_
        refine rdH (fun K hK => ?_) ?_
        · have hb5 := Below.step HB4.out (.cells #[.string uk, .int .i64 ux, .int .i64 un, .string ut] 32) (Below.refl _ _)
          have hx5 := HX4.out.alloc (.cells #[.string uk, .int .i64 ux, .int .i64 un, .string ut] 32)
          have z5 := HBK2.out _ hb5 hx5
          have HB5 := Lib.hid hb5
          have HX5 := Lib.hid hx5
          have HONE := Lib.hid (isUs_one w4 (uk, ux, un, ut))
          have HROW := Lib.hid ((HRW.out.alloc (.cells #[.string uk, .int .i64 ux, .int .i64 un, .string ut] 32)).rowU (B := w.heap.size) (by have := HB3.out.size; omega) (by have := H8.out; omega))
          clear hb5 hx5
          go_simp
          refine hK.out _ _ ?_ (fun hH => ?_)
          · exact z5
          clear hK K
          try simp only [pt]
          refine wpAnyH_ready (rs := [4]) (by kernel_rfl) (by simp) ?_
          refine rdH (fun K hK => ?_) ?_
          · obtain ⟨a6, c6', w6, hrun, hr6, hg6, _⟩ := run_appU (w4.alloc (.cells #[.string uk, .int .i64 ux, .int .i64 un, .string ut] 32)) 33 w.heap.size _ s.op HROW.out (some ⟨w4.heap.size, 0, none⟩) 1 1 [(uk, ux, un, ut)] HONE.out (Nat.le_refl _) (fun e => by cases e) (by have := H8.out; omega) (by have := HB5.out.size; exact this)
            have hb6 := belU HROW.out HB5.out hg6 HB5.out.size
            have hx6 := HX5.out.kept hg6 (by simp only [Value.ownBlock]; intro e; have e2 := Option.some.inj e; have := HB3.out.size; omega)
            have z6 := HBK2.out _ hb6 hx6
            have HB6 := Lib.hid hb6
            have HI6 := Lib.hid (hr6.isU (by simp)).1
            clear hx6 hb6 hr6 hg6
            refine step_append_run (by rfl) (.tmp 21) (.tmp 23) 33 rfl _ _ _ rfl rfl hrun ?_
            refine hK.out _ _ ?_ (fun hH => ?_)
            · exact z6
            clear hK K
            try simp only [pt]
            refine tkH 5 ?_ ?_ ?_
            rotate_left
            · intro w h; try dsimp only at h
              obtain ⟨q1, q2, q3, q4⟩ := h; go_simp; all_goals with_reducible rfl
            try simp only [pt]
            refine wpAnyH_done (by kernel_rfl) ?_ _
            clear z3 hrun
            have c2 := (HK.out _ HB6.out).1
            clear z6
            go_wp2_with fail
            refine (HF2 _ _ _ (HD.out.below HB6.out) HI6.out).out.mono ?_
            rintro e w7 ⟨rfl, hb⟩
            have HB7 := Lib.hid (Below.next HB6.out hb)
            have HI7 := Lib.hid (isUs_below HI6.out hb)
            clear hb c2 HI6 HF2
            go_wp2_with fail
            refine (HCP _ _ _ HI7.out).out.mono ?_
            rintro e w8 ⟨rfl, hr, hb⟩
            have hb8 := Below.next HB7.out hb
            obtain ⟨jb, FJ, v, S, rs, vo, hq, hF⟩ := (HK.out _ hb8).2
            have c6 := hq.c6
            have f6 := hq.f0 6
            have hs7 := HB7.out.size
            have HP := Lib.hid (pk_open hq (s.op ++ [(uk, ux, un, ut)]) (w7.heap.size + 2) hr (by have := HLW.out; omega) fun x hx e => by
              have := (HFT.out x (by rw [hF]; exact hx)).2
              omega)
            have HB8 := Lib.hid hb8
            have HEF := Lib.hid hF
            rw [HOL.out] at HP
            clear hr hb hb8 hq hF HI7
            go_wp2
            go_ret
            refine ⟨rfl, _, HP.out, ?_, fun x hx => ?_⟩
            · refine (Lv.ofBelow HB8.out F).trans (Lv.set ?_ _ _)
              rw [HEF.out]
              exact .inl (.inl rfl)
            · rw [HEF.out]
              rcases hx with hx | hx | hx
              · exact .inl (.inl hx)
              · exact .inl (.inr (.inl hx))
              · simp only [Value.ownBlock, Option.some.injEq] at hx
                have := HLW.out
                exact .inr (by omega)
          exact AllReadyH.nil
        exact AllReadyH.nil
      refine rdH (fun K hK => ?_) ?_
      · have hb4 := Below.step HB3.out (.cells #[.string uk, .int .i64 ux, .int .i64 un, .string ut] 32) (Below.refl _ _)
        have hx4 := HX3.out.alloc (.cells #[.string uk, .int .i64 ux, .int .i64 un, .string ut] 32)
        have z4 := HBK2.out _ hb4 hx4
        have HB4 := Lib.hid hb4
        have HX4 := Lib.hid hx4
        have HONE0 := Lib.hid (isUs_one w3 (uk, ux, un, ut))
        clear hb4 hx4
        go_simp
        refine hK.out _ _ ?_ (fun hH => ?_)
        · exact z4
        clear hK K
        try simp only [pt]
        refine wpAnyH_ready (rs := [1]) (by kernel_rfl) (by simp) ?_
        refine rdH (fun K hK => ?_) ?_
        · go_simp
          refine (HO (w3.alloc (.cells #[.string uk, .int .i64 ux, .int .i64 un, .string ut] 32)).drew (((HK.out _ HB4.out).2).asit rfl)).out.mono ?_
          rintro e w5 ⟨rfl, hrw', hb'⟩
          have hrw : Rw w5 (w3.heap.size + 1 + 2) s.op := by
            have hx := hrw'
            simp at hx
            exact hx
          have hb : Below (w3.alloc (.cells #[.string uk, .int .i64 ux, .int .i64 un, .string ut] 32)).heap.size (w3.alloc (.cells #[.string uk, .int .i64 ux, .int .i64 un, .string ut] 32)) w5 := ⟨hb'.os, hb'.tape, hb'.output, hb'.size, hb'.block⟩
          have hb5 := Below.next HB4.out hb
          have hx5 := HX4.out.kept (grownOf none hb) (by simp)
          have z5 := HBK2.out _ hb5 hx5
          have HB5 := Lib.hid hb5
          have HX5 := Lib.hid hx5
          have HONE := Lib.hid (isUs_below HONE0.out hb)
          have HROW := Lib.hid (hrw.rowU (B := w.heap.size) (by have := HB3.out.size; omega) (by have := H8.out; omega))
          clear hrw
          clear hb hb' hb5 hx5 hrw'
          go_wp2_with fail
          refine hK.out _ _ ?_ (fun hH => ?_)
          · exact z5
          clear hK K
          try simp only [pt]
          refine wpAnyH_ready (rs := [4]) (by kernel_rfl) (by simp) ?_
          refine rdH (fun K hK => ?_) ?_
          · obtain ⟨a6, c6', w6, hrun, hr6, hg6, _⟩ := run_appU w5 33 w.heap.size _ s.op HROW.out (some ⟨w3.heap.size, 0, none⟩) 1 1 [(uk, ux, un, ut)] HONE.out (Nat.le_refl _) (fun e => by cases e) (by have := H8.out; omega) (by have := HB5.out.size; exact this)
            have hb6 := belU HROW.out HB5.out hg6 HB5.out.size
            have hx6 := HX5.out.kept hg6 (by simp only [Value.ownBlock]; intro e; have e2 := Option.some.inj e; have := HB3.out.size; omega)
            have z6 := HBK2.out _ hb6 hx6
            have HB6 := Lib.hid hb6
            have HI6 := Lib.hid (hr6.isU (by simp)).1
            clear hx6 hb6 hr6 hg6
            refine step_append_run (by rfl) (.tmp 21) (.tmp 23) 33 rfl _ _ _ rfl rfl hrun ?_
            refine hK.out _ _ ?_ (fun hH => ?_)
            · exact z6
            clear hK K
            try simp only [pt]
            refine tkH 5 ?_ ?_ ?_
            rotate_left
            · intro w h; try dsimp only at h
              obtain ⟨q1, q2, q3, q4⟩ := h; go_simp; all_goals with_reducible rfl
            try simp only [pt]
            refine wpAnyH_done (by kernel_rfl) ?_ _
            clear z3 hrun
            have c2 := (HK.out _ HB6.out).1
            clear z6
            go_wp2_with fail
            refine (HF2 _ _ _ (HD.out.below HB6.out) HI6.out).out.mono ?_
            rintro e w7 ⟨rfl, hb⟩
            have HB7 := Lib.hid (Below.next HB6.out hb)
            have HI7 := Lib.hid (isUs_below HI6.out hb)
            clear hb c2 HI6 HF2
            go_wp2_with fail
            refine (HCP _ _ _ HI7.out).out.mono ?_
            rintro e w8 ⟨rfl, hr, hb⟩
            have hb8 := Below.next HB7.out hb
            obtain ⟨jb, FJ, v, S, rs, vo, hq, hF⟩ := (HK.out _ hb8).2
            have c6 := hq.c6
            have f6 := hq.f0 6
            have hs7 := HB7.out.size
            have HP := Lib.hid (pk_open hq (s.op ++ [(uk, ux, un, ut)]) (w7.heap.size + 2) hr (by have := HLW.out; omega) fun x hx e => by
              have := (HFT.out x (by rw [hF]; exact hx)).2
              omega)
            have HB8 := Lib.hid hb8
            have HEF := Lib.hid hF
            rw [HOL.out] at HP
            clear hr hb hb8 hq hF HI7
            go_wp2
            go_ret
            refine ⟨rfl, _, HP.out, ?_, fun x hx => ?_⟩
            · refine (Lv.ofBelow HB8.out F).trans (Lv.set ?_ _ _)
              rw [HEF.out]
              exact .inl (.inl rfl)
            · rw [HEF.out]
              rcases hx with hx | hx | hx
              · exact .inl (.inl hx)
              · exact .inl (.inr (.inl hx))
              · simp only [Value.ownBlock, Option.some.injEq] at hx
                have := HLW.out
                exact .inr (by omega)
          exact AllReadyH.nil
        exact AllReadyH.nil
      exact AllReadyH.nil
    exact AllReadyH.nil
  exact AllReadyH.nil
theorem cupd_any (u : Up) (h8 : s.op.length ≤ 8) (hsm : Sm s.op) (hsm2 : Sm (s.op ++ [u])) (w : World) (hd : X.Wd w) (h : Pk B w b F s) :
    Calls Tryd.prog 24 #[.pointer (some ⟨b, 0, none⟩), uu u] w fun e w' => e = .returned (.int .i64 (s.updE u)) ∧ ∃ F', PkW B w w' b F F' (s.upd u) := by
  obtain ⟨uk, ux, un, ut⟩ := u
  have no : ∀ er, s.updE (uk, ux, un, ut) = er → ¬ er = 0 → (Calls Tryd.prog 24 #[.pointer (some ⟨b, 0, none⟩), .agg #[.string uk, .int .i64 ux, .int .i64 un, .string ut]] w fun e w' => e = .returned (.int .i64 er) ∧ Below w.heap.size w w') → Calls Tryd.prog 24 #[.pointer (some ⟨b, 0, none⟩), uu (uk, ux, un, ut)] w fun e w' => e = .returned (.int .i64 (s.updE (uk, ux, un, ut))) ∧ ∃ F', PkW B w w' b F F' (s.upd (uk, ux, un, ut)) := fun er he h0 hc => hc.mono fun e w' ⟨h1, h2⟩ => ⟨by rw [he]; exact h1, F, by rw [upd_no (by rw [he]; exact h0)]; exact pkW_no h h2⟩
  by_cases hm : mayE (uk, ux, un, ut) = 0
  · by_cases hf : X.fitsB [(uk, ux, un, ut)] s.mtu = true
    · by_cases hf2 : X.fitsB (s.op ++ [(uk, ux, un, ut)]) s.mtu = true
      · have e0 : s.updE (uk, ux, un, ut) = 0 := by show updE _ _ _ = 0; unfold updE; rw [if_pos hm, if_pos hf, if_pos hf2]
        have e1 : s.upd (uk, ux, un, ut) = { s with op := s.op ++ [(uk, ux, un, ut)] } := by unfold Cs.upd updO; rw [if_pos (show updE _ _ _ = 0 from e0)]
        rw [e0, e1]
        exact cupd_ok uk ux un ut hm hf hf2 h8 hsm hsm2 w hd h
      · exact no 7 (by show updE _ _ _ = 7; unfold updE; rw [if_pos hm, if_pos hf, if_neg hf2]) (by decide) (cupd_full uk ux un ut hm hf (by simpa using hf2) h8 hsm hsm2 w hd h)
    · exact no 3 (by show updE _ _ _ = 3; unfold updE; rw [if_pos hm, if_neg hf]) (by decide) (cupd_long uk ux un ut hm (by simpa using hf) w hd h)
  · exact no _ (by show updE _ _ _ = _; unfold updE; rw [if_neg hm]) hm (cupd_may uk ux un ut hm w)
end
end Go.Proofs.YtbbgibekplfacaaDoor
