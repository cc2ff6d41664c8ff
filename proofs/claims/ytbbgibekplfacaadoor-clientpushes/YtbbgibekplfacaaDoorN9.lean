/- The document's Update. -/
import Derived.Test.YtbbgibekplfacaaDoorRH
import Derived.Test.YtbbgibekplfacaaDoorN8
import Derived.Test.YtbbgibekplfacaaDoorN5
namespace Go.Proofs.YtbbgibekplfacaaDoor
open Go Go.RowKit
set_option maxRecDepth 20000
theorem usM_row {w w6 : World} {M : Nat → Prop} {a : Option Addr} {n c : Nat} {us : List Up} (hr : RowU w.heap.size w6 (.slice a n c) us) (hn : n = us.length) (h2 : ∀ x, w.heap.size ≤ x → x < w6.heap.size → M x) : UsM w6 M a n c us := by
  obtain ⟨hx, hc, hnn⟩ := hr.isU hn
  refine ⟨hx, hc, hnn, fun _ g off e => ?_⟩
  subst e
  obtain ⟨hlo, cur, hcur⟩ := hr.typ g rfl
  exact h2 g hlo (Array.getElem?_eq_some_iff.1 hcur).1
theorem dk_open {B b jb : Nat} {w W : World} {FJ M : Nat → Prop} {ak ap ao : Option Addr} {lk ck lp cp lo co : Nat} {rk rp : List Rn} {s : Cs} (h : Dq B w b jb FJ M ak lk ck rk ap lp cp rp (s.uss.drop s.k) ao lo co s) (hb : Below w.heap.size w W) {a : Option Addr} {n c : Nat} {us : List Up} (hr : RowU w.heap.size W (.slice a n c) us) (hn : n = us.length) :
    ∃ D', DkW B w (W.setCell ⟨b, 6, none⟩ (.slice a n c)) b (Df b FJ M) D' { s with op := us } := by
  have hg := (h.grow hb).setO (usM_row (M := Mn M w W) hr hn fun x h1 h2 => .inr ⟨h1, h2⟩)
  have hl := (Lv.ofBelow hb (fun x => x = b)).trans (Lv.set (F := fun x => x = b) rfl 6 (.slice a n c))
  refine ⟨_, ⟨jb, FJ, _, ak, lk, ck, rk, ap, lp, cp, rp, a, n, c, hg, rfl⟩, ⟨hl.os, hl.tape, hl.output, hl.size, fun x hx hn => hl.block x hx fun e => hn ⟨by rw [e]; exact h.hB, .inr (.inl e)⟩⟩, fun x hx => ?_⟩
  rcases hx with hx | hx | hx
  · rcases hx with hx | hx
    · exact .inl (.inl hx)
    · exact .inr hx.1
  · exact .inl (.inr (.inl hx))
  · exact .inl (.inr (.inr hx))
section
variable {B b : Nat} {D : Nat → Prop} {s : Cs}
set_option maxHeartbeats 8000000 in
theorem dupd_may (uk : ByteArray) (ux un : Int) (ut : ByteArray) (hm : ¬ mayE (uk, ux, un, ut) = 0) (w : World) :
    Calls Tryd.prog 35 #[.pointer (some ⟨b, 0, none⟩), .agg #[.string uk, .int .i64 ux, .int .i64 un, .string ut]] w fun e w' => e = .returned (.int .i64 (mayE (uk, ux, un, ut))) ∧ Below w.heap.size w w' := by
  have hA := Joins.below_alloc1 w (.cells #[.string uk, .int .i64 ux, .int .i64 un, .string ut] 32)
  have HM := fun W => Lib.hid (rmay_any (uk, ux, un, ut) W)
  simp only [uu] at HM
  obtain ⟨er, her⟩ : ∃ er, mayE (uk, ux, un, ut) = er := ⟨_, rfl⟩
  have k1 : (er != 0) = true := by rw [bne_iff_ne]; rw [← her]; exact hm
  rw [her] at HM ⊢
  clear her
  have hbx : Ub (w.alloc (.cells #[.string uk, .int .i64 ux, .int .i64 un, .string ut] 32)) w.heap.size (uk, ux, un, ut) := Ub.new w (uk, ux, un, ut)
  have d0 := hbx.c0
  have d1 := hbx.c1
  have d2 := hbx.c2
  have d3 := hbx.c3
  simp only at d0 d1 d2 d3
  have HBX := Lib.hid hbx
  have HA := Lib.hid hA
  clear hA hbx hm
  go_enter Tryd.func35, Tryd.ntmps35
  go_wp2_with fail
  refine (HM _).out.mono ?_
  rintro e w1 ⟨rfl, hb⟩
  have hbx1 := HBX.out.kept (grownOf none hb) (by simp)
  have HB1 := Lib.hid (Below.next HA.out hb)
  clear hb hbx1 HM d0 d1 d2 d3
  go_wp2
  go_ret
  exact ⟨rfl, HB1.out⟩
set_option maxHeartbeats 8000000 in
theorem dupd_long (uk : ByteArray) (ux un : Int) (ut : ByteArray) (hm : mayE (uk, ux, un, ut) = 0) (hf : X.fitsB [(uk, ux, un, ut)] s.mtu = false) (w : World) (h : Dk B w b D s) :
    Calls Tryd.prog 35 #[.pointer (some ⟨b, 0, none⟩), .agg #[.string uk, .int .i64 ux, .int .i64 un, .string ut]] w fun e w' => e = .returned (.int .i64 3) ∧ Below w.heap.size w w' := by
  have hA := Joins.below_alloc1 w (.cells #[.string uk, .int .i64 ux, .int .i64 un, .string ut] 32)
  have HM := fun W => Lib.hid (rmay_any (uk, ux, un, ut) W)
  simp only [uu] at HM
  rw [hm] at HM
  have hbx : Ub (w.alloc (.cells #[.string uk, .int .i64 ux, .int .i64 un, .string ut] 32)) w.heap.size (uk, ux, un, ut) := Ub.new w (uk, ux, un, ut)
  have d0 := hbx.c0
  have d1 := hbx.c1
  have d2 := hbx.c2
  have d3 := hbx.c3
  simp only at d0 d1 d2 d3
  have HBX := Lib.hid hbx
  have HA := Lib.hid hA
  obtain ⟨jb, FJ, M, ak, lk, ck, rk, ap, lp, cp, rp, ao, lo, co, hq, rfl⟩ := h
  obtain rfl : s.op.length = lo := hq.ou.is.size
  have HK : Hid (∀ W, Below w.heap.size w W → Dq B W b jb FJ M ak lk ck rk ap lp cp rp (s.uss.drop s.k) ao s.op.length co s) := Lib.hid fun W hW => hq.next hW
  have HBK2 : Hid (∀ W, Ub W w.heap.size (uk, ux, un, ut) → W.cell? ⟨w.heap.size, 0, none⟩ = some (.string uk) ∧ W.cell? ⟨w.heap.size, 1, none⟩ = some (.int .i64 ux) ∧ W.cell? ⟨w.heap.size, 2, none⟩ = some (.int .i64 un) ∧ W.cell? ⟨w.heap.size, 3, none⟩ = some (.string ut)) := Lib.hid fun W hu => ⟨hu.c0, hu.c1, hu.c2, hu.c3⟩
  have HF1 := fun (g : Nat) W hu => Lib.hid (X.docfits_any (some ⟨g, 0, none⟩) 1 1 [(uk, ux, un, ut)] s.mtu W hu)
  rw [hf] at HF1
  clear hA hbx hq hm hf
  go_enter Tryd.func35, Tryd.ntmps35
  go_wp2_with fail
  refine (HM _).out.mono ?_
  rintro e w1 ⟨rfl, hb⟩
  have hbx1 := HBX.out.kept (grownOf none hb) (by simp)
  have HB1 := Lib.hid (Below.next HA.out hb)
  have n1 := (HK.out _ HB1.out).c2
  have HBX1 := Lib.hid hbx1
  have m1 := HBK2.out _ hbx1
  clear hb hbx1 HM d0 d1 d2 d3
  go_wp2_with fail
  refine wp_region_held_drew (S := fun w' => w'.cell? ⟨b, 2, none⟩ = some (.int .i64 s.mtu) ∧ w'.cell? ⟨w.heap.size, 0, none⟩ = some (.string uk) ∧ w'.cell? ⟨w.heap.size, 1, none⟩ = some (.int .i64 ux) ∧ w'.cell? ⟨w.heap.size, 2, none⟩ = some (.int .i64 un) ∧ w'.cell? ⟨w.heap.size, 3, none⟩ = some (.string ut)) (by kernel_rfl) ?_ (fun hH => ?_)
  · exact ⟨n1, m1⟩
  refine tkH 0 ?_ ?_ ?_
  rotate_left
  · intro w h; try dsimp only at h
    obtain ⟨q0, q1, q2, q3, q4⟩ := h; go_simp; all_goals with_reducible rfl
  try simp only [pt]
  refine tkH 2 ?_ ?_ ?_
  rotate_left
  · intro w h; try dsimp only at h
    obtain ⟨q0, q1, q2, q3, q4⟩ := h; go_simp; all_goals with_reducible rfl
  try simp only [pt]
  refine tkH 3 ?_ ?_ ?_
  rotate_left
  · intro w h; try dsimp only at h
    obtain ⟨q0, q1, q2, q3, q4⟩ := h; go_simp; all_goals with_reducible rfl
  try simp only [pt]
  refine tkH 4 ?_ ?_ ?_
  rotate_left
  · intro w h; try dsimp only at h
    obtain ⟨q0, q1, q2, q3, q4⟩ := h; go_simp; all_goals with_reducible rfl
  try simp only [pt]
  refine tkH 5 ?_ ?_ ?_
  rotate_left
  · intro w h; try dsimp only at h
    obtain ⟨q0, q1, q2, q3, q4⟩ := h; go_simp; all_goals with_reducible rfl
  try simp only [pt]
  refine wpAnyH_ready (rs := [1]) (by kernel_rfl) (by simp) ?_
  refine rdH (fun K hK => ?_) ?_
  · have hb2 := Below.step HB1.out (.cells #[.string uk, .int .i64 ux, .int .i64 un, .string ut] 32) (Below.refl _ _)
    have n2 := (HK.out _ hb2).c2
    have m2 := HBK2.out _ (HBX1.out.alloc (.cells #[.string uk, .int .i64 ux, .int .i64 un, .string ut] 32))
    have HB2 := Lib.hid hb2
    have HX2 := Lib.hid (HBX1.out.alloc (.cells #[.string uk, .int .i64 ux, .int .i64 un, .string ut] 32))
    clear hb2
    go_simp
    refine hK.out _ _ ?_ (fun hH => ?_)
    · exact ⟨n2, m2⟩
    clear hK K
    try simp only [pt]
    refine wpAnyH_ready (rs := [6]) (by kernel_rfl) (by simp) ?_
    refine rdH (fun K hK => ?_) ?_
    · go_simp
      refine (HF1 _ (w1.alloc (.cells #[.string uk, .int .i64 ux, .int .i64 un, .string ut] 32)).drew (isUs_same (isUs_one w1 (uk, ux, un, ut)) fun _ _ _ => rfl)).out.mono ?_
      rintro e w3 ⟨rfl, hb'⟩
      have hb : Below (w1.alloc (.cells #[.string uk, .int .i64 ux, .int .i64 un, .string ut] 32)).heap.size (w1.alloc (.cells #[.string uk, .int .i64 ux, .int .i64 un, .string ut] 32)) w3 := ⟨hb'.os, hb'.tape, hb'.output, hb'.size, hb'.block⟩
      have hb3 := Below.next HB2.out hb
      have hx3 := HX2.out.kept (grownOf none hb) (by simp)
      have n3 := (HK.out _ hb3).c2
      have m3 := HBK2.out _ hx3
      have HB3 := Lib.hid hb3
      have HX3 := Lib.hid hx3
      clear hb hb' hb3 hx3 n2 m2 HB2 HX2
      go_wp2_with fail
      refine hK.out _ _ ?_ (fun hH => ?_)
      · exact ⟨n3, m3⟩
      clear hK K
      try simp only [pt]
      refine tkH 7 ?_ ?_ ?_
      rotate_left
      · intro w h; try dsimp only at h
        obtain ⟨q0, q1, q2, q3, q4⟩ := h; go_simp; all_goals with_reducible rfl
      try simp only [pt]
      refine wpAnyH_done (by kernel_rfl) ?_ _
      clear n1 m1
      clear n3 m3
      go_wp2
      go_ret
      exact ⟨rfl, HB3.out⟩
    exact AllReadyH.nil
  exact AllReadyH.nil
set_option maxHeartbeats 8000000 in
theorem dupd_full (uk : ByteArray) (ux un : Int) (ut : ByteArray) (hm : mayE (uk, ux, un, ut) = 0) (hf : X.fitsB [(uk, ux, un, ut)] s.mtu = true) (hf2 : X.fitsB (s.op ++ [(uk, ux, un, ut)]) s.mtu = false) (h8 : s.op.length ≤ 8) (w : World) (h : Dk B w b D s) :
    Calls Tryd.prog 35 #[.pointer (some ⟨b, 0, none⟩), .agg #[.string uk, .int .i64 ux, .int .i64 un, .string ut]] w fun e w' => e = .returned (.int .i64 7) ∧ Below w.heap.size w w' := by
  have hA := Joins.below_alloc1 w (.cells #[.string uk, .int .i64 ux, .int .i64 un, .string ut] 32)
  have HM := fun W => Lib.hid (rmay_any (uk, ux, un, ut) W)
  simp only [uu] at HM
  rw [hm] at HM
  have hbx : Ub (w.alloc (.cells #[.string uk, .int .i64 ux, .int .i64 un, .string ut] 32)) w.heap.size (uk, ux, un, ut) := Ub.new w (uk, ux, un, ut)
  have d0 := hbx.c0
  have d1 := hbx.c1
  have d2 := hbx.c2
  have d3 := hbx.c3
  simp only at d0 d1 d2 d3
  have HBX := Lib.hid hbx
  have HA := Lib.hid hA
  obtain ⟨jb, FJ, M, ak, lk, ck, rk, ap, lp, cp, rp, ao, lo, co, hq, rfl⟩ := h
  obtain rfl : s.op.length = lo := hq.ou.is.size
  have HK : Hid (∀ W, Below w.heap.size w W → Dq B W b jb FJ M ak lk ck rk ap lp cp rp (s.uss.drop s.k) ao s.op.length co s) := Lib.hid fun W hW => hq.next hW
  have HBK2 : Hid (∀ W, Ub W w.heap.size (uk, ux, un, ut) → W.cell? ⟨w.heap.size, 0, none⟩ = some (.string uk) ∧ W.cell? ⟨w.heap.size, 1, none⟩ = some (.int .i64 ux) ∧ W.cell? ⟨w.heap.size, 2, none⟩ = some (.int .i64 un) ∧ W.cell? ⟨w.heap.size, 3, none⟩ = some (.string ut)) := Lib.hid fun W hu => ⟨hu.c0, hu.c1, hu.c2, hu.c3⟩
  have HF1 := fun (g : Nat) W hu => Lib.hid (X.docfits_any (some ⟨g, 0, none⟩) 1 1 [(uk, ux, un, ut)] s.mtu W hu)
  rw [hf] at HF1
  have HF2 := fun a c W hu => Lib.hid (X.docfits_any a (s.op.length + 1) c (s.op ++ [(uk, ux, un, ut)]) s.mtu W hu)
  rw [hf2] at HF2
  have H8 := Lib.hid h8
  have HQ := Lib.hid hq
  have HOL : Hid (s.op.length + 1 = (s.op ++ [(uk, ux, un, ut)]).length) := Lib.hid (by simp)
  clear hA hbx hq hm hf hf2 h8
  go_enter Tryd.func35, Tryd.ntmps35
  go_wp2_with fail
  refine (HM _).out.mono ?_
  rintro e w1 ⟨rfl, hb⟩
  have hbx1 := HBX.out.kept (grownOf none hb) (by simp)
  have HB1 := Lib.hid (Below.next HA.out hb)
  have n1 := (HK.out _ HB1.out).c2
  have HBX1 := Lib.hid hbx1
  have m1 := HBK2.out _ hbx1
  clear hb hbx1 HM d0 d1 d2 d3
  go_wp2_with fail
  refine wp_region_held_drew (S := fun w' => w'.cell? ⟨b, 2, none⟩ = some (.int .i64 s.mtu) ∧ w'.cell? ⟨w.heap.size, 0, none⟩ = some (.string uk) ∧ w'.cell? ⟨w.heap.size, 1, none⟩ = some (.int .i64 ux) ∧ w'.cell? ⟨w.heap.size, 2, none⟩ = some (.int .i64 un) ∧ w'.cell? ⟨w.heap.size, 3, none⟩ = some (.string ut)) (by kernel_rfl) ?_ (fun hH => ?_)
  · exact ⟨n1, m1⟩
  refine tkH 0 ?_ ?_ ?_
  rotate_left
  · intro w h; try dsimp only at h
    obtain ⟨q0, q1, q2, q3, q4⟩ := h; go_simp; all_goals with_reducible rfl
  try simp only [pt]
  refine tkH 2 ?_ ?_ ?_
  rotate_left
  · intro w h; try dsimp only at h
    obtain ⟨q0, q1, q2, q3, q4⟩ := h; go_simp; all_goals with_reducible rfl
  try simp only [pt]
  refine tkH 3 ?_ ?_ ?_
  rotate_left
  · intro w h; try dsimp only at h
    obtain ⟨q0, q1, q2, q3, q4⟩ := h; go_simp; all_goals with_reducible rfl
  try simp only [pt]
  refine tkH 4 ?_ ?_ ?_
  rotate_left
  · intro w h; try dsimp only at h
    obtain ⟨q0, q1, q2, q3, q4⟩ := h; go_simp; all_goals with_reducible rfl
  try simp only [pt]
  refine tkH 5 ?_ ?_ ?_
  rotate_left
  · intro w h; try dsimp only at h
    obtain ⟨q0, q1, q2, q3, q4⟩ := h; go_simp; all_goals with_reducible rfl
  try simp only [pt]
  refine wpAnyH_ready (rs := [1]) (by kernel_rfl) (by simp) ?_
  refine rdH (fun K hK => ?_) ?_
  · have hb2 := Below.step HB1.out (.cells #[.string uk, .int .i64 ux, .int .i64 un, .string ut] 32) (Below.refl _ _)
    have n2 := (HK.out _ hb2).c2
    have m2 := HBK2.out _ (HBX1.out.alloc (.cells #[.string uk, .int .i64 ux, .int .i64 un, .string ut] 32))
    have HB2 := Lib.hid hb2
    have HX2 := Lib.hid (HBX1.out.alloc (.cells #[.string uk, .int .i64 ux, .int .i64 un, .string ut] 32))
    clear hb2
    go_simp
    refine hK.out _ _ ?_ (fun hH => ?_)
    · exact ⟨n2, m2⟩
    clear hK K
    try simp only [pt]
    refine wpAnyH_ready (rs := [6]) (by kernel_rfl) (by simp) ?_
    refine rdH (fun K hK => ?_) ?_
    · go_simp
      refine (HF1 _ (w1.alloc (.cells #[.string uk, .int .i64 ux, .int .i64 un, .string ut] 32)).drew (isUs_same (isUs_one w1 (uk, ux, un, ut)) fun _ _ _ => rfl)).out.mono ?_
      rintro e w3 ⟨rfl, hb'⟩
      have hb : Below (w1.alloc (.cells #[.string uk, .int .i64 ux, .int .i64 un, .string ut] 32)).heap.size (w1.alloc (.cells #[.string uk, .int .i64 ux, .int .i64 un, .string ut] 32)) w3 := ⟨hb'.os, hb'.tape, hb'.output, hb'.size, hb'.block⟩
      have hb3 := Below.next HB2.out hb
      have hx3 := HX2.out.kept (grownOf none hb) (by simp)
      have n3 := (HK.out _ hb3).c2
      have m3 := HBK2.out _ hx3
      have HB3 := Lib.hid hb3
      have HX3 := Lib.hid hx3
      clear hb hb' hb3 hx3 n2 m2 HB2 HX2
      go_wp2_with fail
      refine hK.out _ _ ?_ (fun hH => ?_)
      · exact ⟨n3, m3⟩
      clear hK K
      try simp only [pt]
      refine tkH 7 ?_ ?_ ?_
      rotate_left
      · intro w h; try dsimp only at h
        obtain ⟨q0, q1, q2, q3, q4⟩ := h; go_simp; all_goals with_reducible rfl
      try simp only [pt]
      refine wpAnyH_done (by kernel_rfl) ?_ _
      clear n1 m1
      clear n3
      have n3 := (HK.out _ HB3.out).c6
      have HK7 : Hid (∀ W, Below w3.heap.size w3 W → W.cell? ⟨b, 6, none⟩ = some (.slice ao s.op.length co) ∧ W.cell? ⟨w.heap.size, 0, none⟩ = some (.string uk) ∧ W.cell? ⟨w.heap.size, 1, none⟩ = some (.int .i64 ux) ∧ W.cell? ⟨w.heap.size, 2, none⟩ = some (.int .i64 un) ∧ W.cell? ⟨w.heap.size, 3, none⟩ = some (.string ut)) := Lib.hid fun W hW => ⟨(HK.out _ (Below.next HB3.out hW)).c6, HBK2.out _ (HX3.out.kept (grownOf none hW) (by simp))⟩
      have HXO := Lib.hid (HK.out _ HB3.out).ou.is
      have HCN := Lib.hid (And.intro HQ.out.ou.hc HQ.out.ou.hn)
      have HW0 : Hid (Below w3.heap.size w3 w3.drew) := Lib.hid (Below.refl w3.heap.size w3).drew
      have hk0 := HK7.out _ HW0.out
      clear HF1
      go_upto_region 6 with fail
      go_cut [6] from 20 to 29 (fun v6 wx => ∃ (a2 : Option Addr) (c2 : Nat), v6 = .slice a2 (s.op.length + 1) c2 ∧ RowU w.heap.size wx (.slice a2 (s.op.length + 1) c2) (s.op ++ [(uk, ux, un, ut)]) ∧ Below w.heap.size w wx)
      case first =>
        go_wp2_with fail
        refine wp_region_held_drew (S := fun w' => w'.cell? ⟨b, 6, none⟩ = some (.slice ao s.op.length co) ∧ w'.cell? ⟨w.heap.size, 0, none⟩ = some (.string uk) ∧ w'.cell? ⟨w.heap.size, 1, none⟩ = some (.int .i64 ux) ∧ w'.cell? ⟨w.heap.size, 2, none⟩ = some (.int .i64 un) ∧ w'.cell? ⟨w.heap.size, 3, none⟩ = some (.string ut)) (by kernel_rfl) ?_ (fun hH => ?_)
        · exact ⟨n3, m3⟩
        refine tkH 1 ?_ ?_ ?_
        rotate_left
        · intro w h; try dsimp only at h
          obtain ⟨q0, q1, q2, q3, q4⟩ := h; go_simp; all_goals with_reducible rfl
        try simp only [pt]
        refine tkH 2 ?_ ?_ ?_
        rotate_left
        · intro w h; try dsimp only at h
          obtain ⟨q0, q1, q2, q3, q4⟩ := h; go_simp; all_goals with_reducible rfl
        try simp only [pt]
        refine tkH 3 ?_ ?_ ?_
        rotate_left
        · intro w h; try dsimp only at h
          obtain ⟨q0, q1, q2, q3, q4⟩ := h; go_simp; all_goals with_reducible rfl
        try simp only [pt]
        refine tkH 4 ?_ ?_ ?_
        rotate_left
        · intro w h; try dsimp only at h
          obtain ⟨q0, q1, q2, q3, q4⟩ := h; go_simp; all_goals with_reducible rfl
        try simp only [pt]
        refine tkH 6 ?_ ?_ ?_
        rotate_left
        · intro w h; try dsimp only at h
          obtain ⟨q0, q1, q2, q3, q4⟩ := h; go_simp; all_goals with_reducible rfl
        try simp only [pt]
        refine wpAnyH_ready (rs := [0, 7]) (by kernel_rfl) (by simp) ?_
        refine rdH (fun K hK => ?_) ?_
        · go_simp
          have HW1 : Hid (Below w3.heap.size w3 (w3.drew.alloc (.cells #[] 32))) := Lib.hid (Below.step HW0.out (.cells #[] 32) (Below.refl _ _))
          have hk1 := HK7.out _ HW1.out
          have HROW : Hid (RowU w3.heap.size (w3.drew.alloc (.cells #[] 32)) (.slice (some ⟨w3.heap.size, 0, none⟩) 0 0) []) := Lib.hid (by
            have := RowU.lower (rowU_new w3.drew) (show w3.heap.size ≤ w3.drew.heap.size by simp)
            rw [show w3.drew.heap.size = w3.heap.size by simp] at this
            exact this)
          refine hK.out _ _ ?_ (fun hH => ?_)
          · exact hk1
          clear hK K
          try simp only [pt]
          refine wpAnyH_ready (rs := [5, 7]) (by kernel_rfl) (by simp) ?_
          refine rdH (fun K hK => ?_) ?_
          · obtain ⟨a1, c1', w6, hrun, hrw6, hgr6, _⟩ := run_appU (w3.drew.alloc (.cells #[] 32)) 33 w3.heap.size _ [] HROW.out ao s.op.length co s.op (isUs_below HXO.out HW1.out) HCN.out.1 HCN.out.2 (by have := H8.out; simp; omega) HW1.out.size
            simp only [List.length_nil, Nat.zero_add, List.nil_append] at hrun hrw6
            have HW2 := Lib.hid (belU HROW.out HW1.out hgr6 HW1.out.size)
            have hk2 := HK7.out _ HW2.out
            have HROW1 := Lib.hid hrw6
            clear hrw6 hgr6
            refine step_append_run (by rfl) (.tmp 20) (.tmp 24) 33 rfl _ _ _ rfl rfl hrun ?_
            refine hK.out _ _ ?_ (fun hH => ?_)
            · exact hk2
            clear hK K
            try simp only [pt]
            refine wpAnyH_ready (rs := [7]) (by kernel_rfl) (by simp) ?_
            refine rdH (fun K hK => ?_) ?_
            · go_simp
              have HW3 : Hid (Below w3.heap.size w3 (w6.alloc (.cells #[.string uk, .int .i64 ux, .int .i64 un, .string ut] 32))) := Lib.hid (Below.step HW2.out (.cells #[.string uk, .int .i64 ux, .int .i64 un, .string ut] 32) (Below.refl _ _))
              have hk3 := HK7.out _ HW3.out
              have HONE : Hid (IsUs (w6.alloc (.cells #[.string uk, .int .i64 ux, .int .i64 un, .string ut] 32)) (some ⟨w6.heap.size, 0, none⟩) 1 [(uk, ux, un, ut)]) := Lib.hid (by
                have := isUs_one w6 (uk, ux, un, ut)
                exact this)
              have HROW1 := Lib.hid (HROW1.out.alloc (.cells #[.string uk, .int .i64 ux, .int .i64 un, .string ut] 32))
              refine hK.out _ _ ?_ (fun hH => ?_)
              · exact hk3
              clear hK K
              try simp only [pt]
              refine wpAnyH_ready (rs := [8]) (by kernel_rfl) (by simp) ?_
              refine rdH (fun K hK => ?_) ?_
              · obtain ⟨a2, c2, w8, hrun9, hrw8, hgr8, _⟩ := run_appU (w6.alloc (.cells #[.string uk, .int .i64 ux, .int .i64 un, .string ut] 32)) 33 w3.heap.size _ s.op HROW1.out (some ⟨w6.heap.size, 0, none⟩) 1 1 [(uk, ux, un, ut)] HONE.out (Nat.le_refl _) (fun e => by cases e) (by have := H8.out; omega) HW3.out.size
                have HW8 := Lib.hid (belU HROW1.out HW3.out hgr8 HW3.out.size)
                have hk9 := HK7.out _ HW8.out
                have HROW2 := Lib.hid hrw8
                clear hrw8 hgr8
                refine step_append_run (by rfl) (.tmp 25) (.tmp 27) 33 rfl _ _ _ rfl rfl hrun9 ?_
                refine hK.out _ _ ?_ (fun hH => ?_)
                · exact hk9
                clear hK K
                try simp only [pt]
                refine tkH 9 ?_ ?_ ?_
                rotate_left
                · intro w h; try dsimp only at h
                  obtain ⟨q0, q1, q2, q3, q4⟩ := h; go_simp; all_goals with_reducible rfl
                try simp only [pt]
                refine wpAnyH_done (by kernel_rfl) ?_ _
                have HB9 := Lib.hid (Below.next HB3.out HW8.out)
                have HR9 := Lib.hid (HROW2.out.lower HB3.out.size)
                clear n3 m3 hrun hrun9
                go_wp2_with fail
                go_meet
                case rel => exact ⟨a2, c2, rfl, HR9.out, HB9.out⟩
              exact AllReadyH.nil
            exact AllReadyH.nil
          refine rdH (fun K hK => ?_) ?_
          · go_simp
            have HW2 : Hid (Below w3.heap.size w3 ((w3.drew.alloc (.cells #[] 32)).alloc (.cells #[.string uk, .int .i64 ux, .int .i64 un, .string ut] 32))) := Lib.hid (Below.step HW1.out (.cells #[.string uk, .int .i64 ux, .int .i64 un, .string ut] 32) (Below.refl _ _))
            have hk2 := HK7.out _ HW2.out
            have HONE : Hid (IsUs ((w3.drew.alloc (.cells #[] 32)).alloc (.cells #[.string uk, .int .i64 ux, .int .i64 un, .string ut] 32)) (some ⟨w3.heap.size + 1, 0, none⟩) 1 [(uk, ux, un, ut)]) := Lib.hid (by
              have := isUs_one (w3.drew.alloc (.cells #[] 32)) (uk, ux, un, ut)
              rw [show (w3.drew.alloc (.cells #[] 32)).heap.size = w3.heap.size + 1 by simp] at this
              exact this)
            have HROW := Lib.hid (HROW.out.alloc (.cells #[.string uk, .int .i64 ux, .int .i64 un, .string ut] 32))
            refine hK.out _ _ ?_ (fun hH => ?_)
            · exact hk2
            clear hK K
            try simp only [pt]
            refine wpAnyH_ready (rs := [5]) (by kernel_rfl) (by simp) ?_
            refine rdH (fun K hK => ?_) ?_
            · obtain ⟨a1, c1', w6, hrun, hrw6, hgr6, _⟩ := run_appU ((w3.drew.alloc (.cells #[] 32)).alloc (.cells #[.string uk, .int .i64 ux, .int .i64 un, .string ut] 32)) 33 w3.heap.size _ [] HROW.out ao s.op.length co s.op (isUs_below HXO.out HW2.out) HCN.out.1 HCN.out.2 (by have := H8.out; simp; omega) HW2.out.size
              simp only [List.length_nil, Nat.zero_add, List.nil_append] at hrun hrw6
              have HW3 := Lib.hid (belU HROW.out HW2.out hgr6 HW2.out.size)
              have hk3 := HK7.out _ HW3.out
              have HROW1 := Lib.hid hrw6
              have HONE := Lib.hid (isUs_keep HONE.out fun _ g off e => hgr6.block g (by cases e; first | (simp; done) | (simp; omega)) (by cases e; simp [Value.ownBlock]))
              clear hrw6 hgr6
              refine step_append_run (by rfl) (.tmp 20) (.tmp 24) 33 rfl _ _ _ rfl rfl hrun ?_
              refine hK.out _ _ ?_ (fun hH => ?_)
              · exact hk3
              clear hK K
              try simp only [pt]
              refine wpAnyH_ready (rs := [8]) (by kernel_rfl) (by simp) ?_
              refine rdH (fun K hK => ?_) ?_
              · obtain ⟨a2, c2, w8, hrun9, hrw8, hgr8, _⟩ := run_appU w6 33 w3.heap.size _ s.op HROW1.out (some ⟨w3.heap.size + 1, 0, none⟩) 1 1 [(uk, ux, un, ut)] HONE.out (Nat.le_refl _) (fun e => by cases e) (by have := H8.out; omega) HW3.out.size
                have HW8 := Lib.hid (belU HROW1.out HW3.out hgr8 HW3.out.size)
                have hk9 := HK7.out _ HW8.out
                have HROW2 := Lib.hid hrw8
                clear hrw8 hgr8
                refine step_append_run (by rfl) (.tmp 25) (.tmp 27) 33 rfl _ _ _ rfl rfl hrun9 ?_
                refine hK.out _ _ ?_ (fun hH => ?_)
                · exact hk9
                clear hK K
                try simp only [pt]
                refine tkH 9 ?_ ?_ ?_
                rotate_left
                · intro w h; try dsimp only at h
                  obtain ⟨q0, q1, q2, q3, q4⟩ := h; go_simp; all_goals with_reducible rfl
                try simp only [pt]
                refine wpAnyH_done (by kernel_rfl) ?_ _
                have HB9 := Lib.hid (Below.next HB3.out HW8.out)
                have HR9 := Lib.hid (HROW2.out.lower HB3.out.size)
                clear n3 m3 hrun hrun9
                go_wp2_with fail
                go_meet
                case rel => exact ⟨a2, c2, rfl, HR9.out, HB9.out⟩
              exact AllReadyH.nil
            exact AllReadyH.nil
          exact AllReadyH.nil
        refine rdH (fun K hK => ?_) ?_
        · go_simp
          have HW1 : Hid (Below w3.heap.size w3 (w3.drew.alloc (.cells #[.string uk, .int .i64 ux, .int .i64 un, .string ut] 32))) := Lib.hid (Below.step HW0.out (.cells #[.string uk, .int .i64 ux, .int .i64 un, .string ut] 32) (Below.refl _ _))
          have hk1 := HK7.out _ HW1.out
          have HONE : Hid (IsUs (w3.drew.alloc (.cells #[.string uk, .int .i64 ux, .int .i64 un, .string ut] 32)) (some ⟨w3.heap.size, 0, none⟩) 1 [(uk, ux, un, ut)]) := Lib.hid (by
            have := isUs_one w3.drew (uk, ux, un, ut)
            rw [show w3.drew.heap.size = w3.heap.size by simp] at this
            exact this)
          refine hK.out _ _ ?_ (fun hH => ?_)
          · exact hk1
          clear hK K
          try simp only [pt]
          refine wpAnyH_ready (rs := [0]) (by kernel_rfl) (by simp) ?_
          refine rdH (fun K hK => ?_) ?_
          · go_simp
            have HW2 : Hid (Below w3.heap.size w3 ((w3.drew.alloc (.cells #[.string uk, .int .i64 ux, .int .i64 un, .string ut] 32)).alloc (.cells #[] 32))) := Lib.hid (Below.step HW1.out (.cells #[] 32) (Below.refl _ _))
            have hk2 := HK7.out _ HW2.out
            have HROW : Hid (RowU w3.heap.size ((w3.drew.alloc (.cells #[.string uk, .int .i64 ux, .int .i64 un, .string ut] 32)).alloc (.cells #[] 32)) (.slice (some ⟨w3.heap.size + 1, 0, none⟩) 0 0) []) := Lib.hid (by
              have := RowU.lower (rowU_new (w3.drew.alloc (.cells #[.string uk, .int .i64 ux, .int .i64 un, .string ut] 32))) (show w3.heap.size ≤ (w3.drew.alloc (.cells #[.string uk, .int .i64 ux, .int .i64 un, .string ut] 32)).heap.size by simp)
              rw [show (w3.drew.alloc (.cells #[.string uk, .int .i64 ux, .int .i64 un, .string ut] 32)).heap.size = w3.heap.size + 1 by simp] at this
              exact this)
            have HONE := Lib.hid (isUs_below (w' := ((w3.drew.alloc (.cells #[.string uk, .int .i64 ux, .int .i64 un, .string ut] 32)).alloc (.cells #[] 32))) HONE.out (Joins.below_alloc1 _ _))
            refine hK.out _ _ ?_ (fun hH => ?_)
            · exact hk2
            clear hK K
            try simp only [pt]
            refine wpAnyH_ready (rs := [5]) (by kernel_rfl) (by simp) ?_
            refine rdH (fun K hK => ?_) ?_
            · obtain ⟨a1, c1', w6, hrun, hrw6, hgr6, _⟩ := run_appU ((w3.drew.alloc (.cells #[.string uk, .int .i64 ux, .int .i64 un, .string ut] 32)).alloc (.cells #[] 32)) 33 w3.heap.size _ [] HROW.out ao s.op.length co s.op (isUs_below HXO.out HW2.out) HCN.out.1 HCN.out.2 (by have := H8.out; simp; omega) HW2.out.size
              simp only [List.length_nil, Nat.zero_add, List.nil_append] at hrun hrw6
              have HW3 := Lib.hid (belU HROW.out HW2.out hgr6 HW2.out.size)
              have hk3 := HK7.out _ HW3.out
              have HROW1 := Lib.hid hrw6
              have HONE := Lib.hid (isUs_keep HONE.out fun _ g off e => hgr6.block g (by cases e; first | (simp; done) | (simp; omega)) (by cases e; simp [Value.ownBlock]))
              clear hrw6 hgr6
              refine step_append_run (by rfl) (.tmp 20) (.tmp 24) 33 rfl _ _ _ rfl rfl hrun ?_
              refine hK.out _ _ ?_ (fun hH => ?_)
              · exact hk3
              clear hK K
              try simp only [pt]
              refine wpAnyH_ready (rs := [8]) (by kernel_rfl) (by simp) ?_
              refine rdH (fun K hK => ?_) ?_
              · obtain ⟨a2, c2, w8, hrun9, hrw8, hgr8, _⟩ := run_appU w6 33 w3.heap.size _ s.op HROW1.out (some ⟨w3.heap.size, 0, none⟩) 1 1 [(uk, ux, un, ut)] HONE.out (Nat.le_refl _) (fun e => by cases e) (by have := H8.out; omega) HW3.out.size
                have HW8 := Lib.hid (belU HROW1.out HW3.out hgr8 HW3.out.size)
                have hk9 := HK7.out _ HW8.out
                have HROW2 := Lib.hid hrw8
                clear hrw8 hgr8
                refine step_append_run (by rfl) (.tmp 25) (.tmp 27) 33 rfl _ _ _ rfl rfl hrun9 ?_
                refine hK.out _ _ ?_ (fun hH => ?_)
                · exact hk9
                clear hK K
                try simp only [pt]
                refine tkH 9 ?_ ?_ ?_
                rotate_left
                · intro w h; try dsimp only at h
                  obtain ⟨q0, q1, q2, q3, q4⟩ := h; go_simp; all_goals with_reducible rfl
                try simp only [pt]
                refine wpAnyH_done (by kernel_rfl) ?_ _
                have HB9 := Lib.hid (Below.next HB3.out HW8.out)
                have HR9 := Lib.hid (HROW2.out.lower HB3.out.size)
                clear n3 m3 hrun hrun9
                go_wp2_with fail
                go_meet
                case rel => exact ⟨a2, c2, rfl, HR9.out, HB9.out⟩
              exact AllReadyH.nil
            exact AllReadyH.nil
          exact AllReadyH.nil
        exact AllReadyH.nil
      case rest =>
        obtain ⟨a2, c2, rfl, hr, hb⟩ := hcut
        have c2' := (HK.out _ hb).c2
        have HI := Lib.hid (hr.isU HOL.out).1
        have HR6 := Lib.hid hr
        have HB6 := Lib.hid hb
        clear hr hb n3 m3 hk0
        go_wp2_with fail
        refine (HF2 _ _ _ HI.out).out.mono ?_
        rintro e w7 ⟨rfl, hb⟩
        have HB7 := Lib.hid (Below.next HB6.out hb)
        have HR7 := Lib.hid (HR6.out.below hb)
        clear hb c2' HI HF2 HR6
        go_wp2
        go_ret
        exact ⟨rfl, HB7.out⟩
    exact AllReadyH.nil
  exact AllReadyH.nil
set_option maxHeartbeats 8000000 in
theorem dupd_ok (uk : ByteArray) (ux un : Int) (ut : ByteArray) (hm : mayE (uk, ux, un, ut) = 0) (hf : X.fitsB [(uk, ux, un, ut)] s.mtu = true) (hf2 : X.fitsB (s.op ++ [(uk, ux, un, ut)]) s.mtu = true) (h8 : s.op.length ≤ 8) (w : World) (h : Dk B w b D s) :
    Calls Tryd.prog 35 #[.pointer (some ⟨b, 0, none⟩), .agg #[.string uk, .int .i64 ux, .int .i64 un, .string ut]] w fun e w' => e = .returned (.int .i64 0) ∧ ∃ D', DkW B w w' b D D' { s with op := s.op ++ [(uk, ux, un, ut)] } := by
  have hA := Joins.below_alloc1 w (.cells #[.string uk, .int .i64 ux, .int .i64 un, .string ut] 32)
  have HM := fun W => Lib.hid (rmay_any (uk, ux, un, ut) W)
  simp only [uu] at HM
  rw [hm] at HM
  have hbx : Ub (w.alloc (.cells #[.string uk, .int .i64 ux, .int .i64 un, .string ut] 32)) w.heap.size (uk, ux, un, ut) := Ub.new w (uk, ux, un, ut)
  have d0 := hbx.c0
  have d1 := hbx.c1
  have d2 := hbx.c2
  have d3 := hbx.c3
  simp only at d0 d1 d2 d3
  have HBX := Lib.hid hbx
  have HA := Lib.hid hA
  obtain ⟨jb, FJ, M, ak, lk, ck, rk, ap, lp, cp, rp, ao, lo, co, hq, rfl⟩ := h
  obtain rfl : s.op.length = lo := hq.ou.is.size
  have HK : Hid (∀ W, Below w.heap.size w W → Dq B W b jb FJ M ak lk ck rk ap lp cp rp (s.uss.drop s.k) ao s.op.length co s) := Lib.hid fun W hW => hq.next hW
  have HBK2 : Hid (∀ W, Ub W w.heap.size (uk, ux, un, ut) → W.cell? ⟨w.heap.size, 0, none⟩ = some (.string uk) ∧ W.cell? ⟨w.heap.size, 1, none⟩ = some (.int .i64 ux) ∧ W.cell? ⟨w.heap.size, 2, none⟩ = some (.int .i64 un) ∧ W.cell? ⟨w.heap.size, 3, none⟩ = some (.string ut)) := Lib.hid fun W hu => ⟨hu.c0, hu.c1, hu.c2, hu.c3⟩
  have HF1 := fun (g : Nat) W hu => Lib.hid (X.docfits_any (some ⟨g, 0, none⟩) 1 1 [(uk, ux, un, ut)] s.mtu W hu)
  rw [hf] at HF1
  have HF2 := fun a c W hu => Lib.hid (X.docfits_any a (s.op.length + 1) c (s.op ++ [(uk, ux, un, ut)]) s.mtu W hu)
  rw [hf2] at HF2
  have H8 := Lib.hid h8
  have HQ := Lib.hid hq
  have HOL : Hid (s.op.length + 1 = (s.op ++ [(uk, ux, un, ut)]).length) := Lib.hid (by simp)
  clear hA hbx hq hm hf hf2 h8
  go_enter Tryd.func35, Tryd.ntmps35
  go_wp2_with fail
  refine (HM _).out.mono ?_
  rintro e w1 ⟨rfl, hb⟩
  have hbx1 := HBX.out.kept (grownOf none hb) (by simp)
  have HB1 := Lib.hid (Below.next HA.out hb)
  have n1 := (HK.out _ HB1.out).c2
  have HBX1 := Lib.hid hbx1
  have m1 := HBK2.out _ hbx1
  clear hb hbx1 HM d0 d1 d2 d3
  go_wp2_with fail
  refine wp_region_held_drew (S := fun w' => w'.cell? ⟨b, 2, none⟩ = some (.int .i64 s.mtu) ∧ w'.cell? ⟨w.heap.size, 0, none⟩ = some (.string uk) ∧ w'.cell? ⟨w.heap.size, 1, none⟩ = some (.int .i64 ux) ∧ w'.cell? ⟨w.heap.size, 2, none⟩ = some (.int .i64 un) ∧ w'.cell? ⟨w.heap.size, 3, none⟩ = some (.string ut)) (by kernel_rfl) ?_ (fun hH => ?_)
  · exact ⟨n1, m1⟩
  refine tkH 0 ?_ ?_ ?_
  rotate_left
  · intro w h; try dsimp only at h
    obtain ⟨q0, q1, q2, q3, q4⟩ := h; go_simp; all_goals with_reducible rfl
  try simp only [pt]
  refine tkH 2 ?_ ?_ ?_
  rotate_left
  · intro w h; try dsimp only at h
    obtain ⟨q0, q1, q2, q3, q4⟩ := h; go_simp; all_goals with_reducible rfl
  try simp only [pt]
  refine tkH 3 ?_ ?_ ?_
  rotate_left
  · intro w h; try dsimp only at h
    obtain ⟨q0, q1, q2, q3, q4⟩ := h; go_simp; all_goals with_reducible rfl
  try simp only [pt]
  refine tkH 4 ?_ ?_ ?_
  rotate_left
  · intro w h; try dsimp only at h
    obtain ⟨q0, q1, q2, q3, q4⟩ := h; go_simp; all_goals with_reducible rfl
  try simp only [pt]
  refine tkH 5 ?_ ?_ ?_
  rotate_left
  · intro w h; try dsimp only at h
    obtain ⟨q0, q1, q2, q3, q4⟩ := h; go_simp; all_goals with_reducible rfl
  try simp only [pt]
  refine wpAnyH_ready (rs := [1]) (by kernel_rfl) (by simp) ?_
  refine rdH (fun K hK => ?_) ?_
  · have hb2 := Below.step HB1.out (.cells #[.string uk, .int .i64 ux, .int .i64 un, .string ut] 32) (Below.refl _ _)
    have n2 := (HK.out _ hb2).c2
    have m2 := HBK2.out _ (HBX1.out.alloc (.cells #[.string uk, .int .i64 ux, .int .i64 un, .string ut] 32))
    have HB2 := Lib.hid hb2
    have HX2 := Lib.hid (HBX1.out.alloc (.cells #[.string uk, .int .i64 ux, .int .i64 un, .string ut] 32))
    clear hb2
    go_simp
    refine hK.out _ _ ?_ (fun hH => ?_)
    · exact ⟨n2, m2⟩
    clear hK K
    try simp only [pt]
    refine wpAnyH_ready (rs := [6]) (by kernel_rfl) (by simp) ?_
    refine rdH (fun K hK => ?_) ?_
    · go_simp
      refine (HF1 _ (w1.alloc (.cells #[.string uk, .int .i64 ux, .int .i64 un, .string ut] 32)).drew (isUs_same (isUs_one w1 (uk, ux, un, ut)) fun _ _ _ => rfl)).out.mono ?_
      rintro e w3 ⟨rfl, hb'⟩
      have hb : Below (w1.alloc (.cells #[.string uk, .int .i64 ux, .int .i64 un, .string ut] 32)).heap.size (w1.alloc (.cells #[.string uk, .int .i64 ux, .int .i64 un, .string ut] 32)) w3 := ⟨hb'.os, hb'.tape, hb'.output, hb'.size, hb'.block⟩
      have hb3 := Below.next HB2.out hb
      have hx3 := HX2.out.kept (grownOf none hb) (by simp)
      have n3 := (HK.out _ hb3).c2
      have m3 := HBK2.out _ hx3
      have HB3 := Lib.hid hb3
      have HX3 := Lib.hid hx3
      clear hb hb' hb3 hx3 n2 m2 HB2 HX2
      go_wp2_with fail
      refine hK.out _ _ ?_ (fun hH => ?_)
      · exact ⟨n3, m3⟩
      clear hK K
      try simp only [pt]
      refine tkH 7 ?_ ?_ ?_
      rotate_left
      · intro w h; try dsimp only at h
        obtain ⟨q0, q1, q2, q3, q4⟩ := h; go_simp; all_goals with_reducible rfl
      try simp only [pt]
      refine wpAnyH_done (by kernel_rfl) ?_ _
      clear n1 m1
      clear n3
      have n3 := (HK.out _ HB3.out).c6
      have HK7 : Hid (∀ W, Below w3.heap.size w3 W → W.cell? ⟨b, 6, none⟩ = some (.slice ao s.op.length co) ∧ W.cell? ⟨w.heap.size, 0, none⟩ = some (.string uk) ∧ W.cell? ⟨w.heap.size, 1, none⟩ = some (.int .i64 ux) ∧ W.cell? ⟨w.heap.size, 2, none⟩ = some (.int .i64 un) ∧ W.cell? ⟨w.heap.size, 3, none⟩ = some (.string ut)) := Lib.hid fun W hW => ⟨(HK.out _ (Below.next HB3.out hW)).c6, HBK2.out _ (HX3.out.kept (grownOf none hW) (by simp))⟩
      have HXO := Lib.hid (HK.out _ HB3.out).ou.is
      have HCN := Lib.hid (And.intro HQ.out.ou.hc HQ.out.ou.hn)
      have HW0 : Hid (Below w3.heap.size w3 w3.drew) := Lib.hid (Below.refl w3.heap.size w3).drew
      have hk0 := HK7.out _ HW0.out
      clear HF1
      go_upto_region 6 with fail
      go_cut [6] from 20 to 29 (fun v6 wx => ∃ (a2 : Option Addr) (c2 : Nat), v6 = .slice a2 (s.op.length + 1) c2 ∧ RowU w.heap.size wx (.slice a2 (s.op.length + 1) c2) (s.op ++ [(uk, ux, un, ut)]) ∧ Below w.heap.size w wx)
      case first =>
        go_wp2_with fail
        refine wp_region_held_drew (S := fun w' => w'.cell? ⟨b, 6, none⟩ = some (.slice ao s.op.length co) ∧ w'.cell? ⟨w.heap.size, 0, none⟩ = some (.string uk) ∧ w'.cell? ⟨w.heap.size, 1, none⟩ = some (.int .i64 ux) ∧ w'.cell? ⟨w.heap.size, 2, none⟩ = some (.int .i64 un) ∧ w'.cell? ⟨w.heap.size, 3, none⟩ = some (.string ut)) (by kernel_rfl) ?_ (fun hH => ?_)
        · exact ⟨n3, m3⟩
        refine tkH 1 ?_ ?_ ?_
        rotate_left
        · intro w h; try dsimp only at h
          obtain ⟨q0, q1, q2, q3, q4⟩ := h; go_simp; all_goals with_reducible rfl
        try simp only [pt]
        refine tkH 2 ?_ ?_ ?_
        rotate_left
        · intro w h; try dsimp only at h
          obtain ⟨q0, q1, q2, q3, q4⟩ := h; go_simp; all_goals with_reducible rfl
        try simp only [pt]
        refine tkH 3 ?_ ?_ ?_
        rotate_left
        · intro w h; try dsimp only at h
          obtain ⟨q0, q1, q2, q3, q4⟩ := h; go_simp; all_goals with_reducible rfl
        try simp only [pt]
        refine tkH 4 ?_ ?_ ?_
        rotate_left
        · intro w h; try dsimp only at h
          obtain ⟨q0, q1, q2, q3, q4⟩ := h; go_simp; all_goals with_reducible rfl
        try simp only [pt]
        refine tkH 6 ?_ ?_ ?_
        rotate_left
        · intro w h; try dsimp only at h
          obtain ⟨q0, q1, q2, q3, q4⟩ := h; go_simp; all_goals with_reducible rfl
        try simp only [pt]
        refine wpAnyH_ready (rs := [0, 7]) (by kernel_rfl) (by simp) ?_
        refine rdH (fun K hK => ?_) ?_
        · go_simp
          have HW1 : Hid (Below w3.heap.size w3 (w3.drew.alloc (.cells #[] 32))) := Lib.hid (Below.step HW0.out (.cells #[] 32) (Below.refl _ _))
          have hk1 := HK7.out _ HW1.out
          have HROW : Hid (RowU w3.heap.size (w3.drew.alloc (.cells #[] 32)) (.slice (some ⟨w3.heap.size, 0, none⟩) 0 0) []) := Lib.hid (by
            have := RowU.lower (rowU_new w3.drew) (show w3.heap.size ≤ w3.drew.heap.size by simp)
            rw [show w3.drew.heap.size = w3.heap.size by simp] at this
            exact this)
          refine hK.out _ _ ?_ (fun hH => ?_)
          · exact hk1
          clear hK K
          try simp only [pt]
          refine wpAnyH_ready (rs := [5, 7]) (by kernel_rfl) (by simp) ?_
          refine rdH (fun K hK => ?_) ?_
          · obtain ⟨a1, c1', w6, hrun, hrw6, hgr6, _⟩ := run_appU (w3.drew.alloc (.cells #[] 32)) 33 w3.heap.size _ [] HROW.out ao s.op.length co s.op (isUs_below HXO.out HW1.out) HCN.out.1 HCN.out.2 (by have := H8.out; simp; omega) HW1.out.size
            simp only [List.length_nil, Nat.zero_add, List.nil_append] at hrun hrw6
            have HW2 := Lib.hid (belU HROW.out HW1.out hgr6 HW1.out.size)
            have hk2 := HK7.out _ HW2.out
            have HROW1 := Lib.hid hrw6
            clear hrw6 hgr6
            refine step_append_run (by rfl) (.tmp 20) (.tmp 24) 33 rfl _ _ _ rfl rfl hrun ?_
            refine hK.out _ _ ?_ (fun hH => ?_)
            · exact hk2
            clear hK K
            try simp only [pt]
            refine wpAnyH_ready (rs := [7]) (by kernel_rfl) (by simp) ?_
            refine rdH (fun K hK => ?_) ?_
            · go_simp
              have HW3 : Hid (Below w3.heap.size w3 (w6.alloc (.cells #[.string uk, .int .i64 ux, .int .i64 un, .string ut] 32))) := Lib.hid (Below.step HW2.out (.cells #[.string uk, .int .i64 ux, .int .i64 un, .string ut] 32) (Below.refl _ _))
              have hk3 := HK7.out _ HW3.out
              have HONE : Hid (IsUs (w6.alloc (.cells #[.string uk, .int .i64 ux, .int .i64 un, .string ut] 32)) (some ⟨w6.heap.size, 0, none⟩) 1 [(uk, ux, un, ut)]) := Lib.hid (by
                have := isUs_one w6 (uk, ux, un, ut)
                exact this)
              have HROW1 := Lib.hid (HROW1.out.alloc (.cells #[.string uk, .int .i64 ux, .int .i64 un, .string ut] 32))
              refine hK.out _ _ ?_ (fun hH => ?_)
              · exact hk3
              clear hK K
              try simp only [pt]
              refine wpAnyH_ready (rs := [8]) (by kernel_rfl) (by simp) ?_
              refine rdH (fun K hK => ?_) ?_
              · obtain ⟨a2, c2, w8, hrun9, hrw8, hgr8, _⟩ := run_appU (w6.alloc (.cells #[.string uk, .int .i64 ux, .int .i64 un, .string ut] 32)) 33 w3.heap.size _ s.op HROW1.out (some ⟨w6.heap.size, 0, none⟩) 1 1 [(uk, ux, un, ut)] HONE.out (Nat.le_refl _) (fun e => by cases e) (by have := H8.out; omega) HW3.out.size
                have HW8 := Lib.hid (belU HROW1.out HW3.out hgr8 HW3.out.size)
                have hk9 := HK7.out _ HW8.out
                have HROW2 := Lib.hid hrw8
                clear hrw8 hgr8
                refine step_append_run (by rfl) (.tmp 25) (.tmp 27) 33 rfl _ _ _ rfl rfl hrun9 ?_
                refine hK.out _ _ ?_ (fun hH => ?_)
                · exact hk9
                clear hK K
                try simp only [pt]
                refine tkH 9 ?_ ?_ ?_
                rotate_left
                · intro w h; try dsimp only at h
                  obtain ⟨q0, q1, q2, q3, q4⟩ := h; go_simp; all_goals with_reducible rfl
                try simp only [pt]
                refine wpAnyH_done (by kernel_rfl) ?_ _
                have HB9 := Lib.hid (Below.next HB3.out HW8.out)
                have HR9 := Lib.hid (HROW2.out.lower HB3.out.size)
                clear n3 m3 hrun hrun9
                go_wp2_with fail
                go_meet
                case rel => exact ⟨a2, c2, rfl, HR9.out, HB9.out⟩
              exact AllReadyH.nil
            exact AllReadyH.nil
          refine rdH (fun K hK => ?_) ?_
          · go_simp
            have HW2 : Hid (Below w3.heap.size w3 ((w3.drew.alloc (.cells #[] 32)).alloc (.cells #[.string uk, .int .i64 ux, .int .i64 un, .string ut] 32))) := Lib.hid (Below.step HW1.out (.cells #[.string uk, .int .i64 ux, .int .i64 un, .string ut] 32) (Below.refl _ _))
            have hk2 := HK7.out _ HW2.out
            have HONE : Hid (IsUs ((w3.drew.alloc (.cells #[] 32)).alloc (.cells #[.string uk, .int .i64 ux, .int .i64 un, .string ut] 32)) (some ⟨w3.heap.size + 1, 0, none⟩) 1 [(uk, ux, un, ut)]) := Lib.hid (by
              have := isUs_one (w3.drew.alloc (.cells #[] 32)) (uk, ux, un, ut)
              rw [show (w3.drew.alloc (.cells #[] 32)).heap.size = w3.heap.size + 1 by simp] at this
              exact this)
            have HROW := Lib.hid (HROW.out.alloc (.cells #[.string uk, .int .i64 ux, .int .i64 un, .string ut] 32))
            refine hK.out _ _ ?_ (fun hH => ?_)
            · exact hk2
            clear hK K
            try simp only [pt]
            refine wpAnyH_ready (rs := [5]) (by kernel_rfl) (by simp) ?_
            refine rdH (fun K hK => ?_) ?_
            · obtain ⟨a1, c1', w6, hrun, hrw6, hgr6, _⟩ := run_appU ((w3.drew.alloc (.cells #[] 32)).alloc (.cells #[.string uk, .int .i64 ux, .int .i64 un, .string ut] 32)) 33 w3.heap.size _ [] HROW.out ao s.op.length co s.op (isUs_below HXO.out HW2.out) HCN.out.1 HCN.out.2 (by have := H8.out; simp; omega) HW2.out.size
              simp only [List.length_nil, Nat.zero_add, List.nil_append] at hrun hrw6
              have HW3 := Lib.hid (belU HROW.out HW2.out hgr6 HW2.out.size)
              have hk3 := HK7.out _ HW3.out
              have HROW1 := Lib.hid hrw6
              have HONE := Lib.hid (isUs_keep HONE.out fun _ g off e => hgr6.block g (by cases e; first | (simp; done) | (simp; omega)) (by cases e; simp [Value.ownBlock]))
              clear hrw6 hgr6
              refine step_append_run (by rfl) (.tmp 20) (.tmp 24) 33 rfl _ _ _ rfl rfl hrun ?_
              refine hK.out _ _ ?_ (fun hH => ?_)
              · exact hk3
              clear hK K
              try simp only [pt]
              refine wpAnyH_ready (rs := [8]) (by kernel_rfl) (by simp) ?_
              refine rdH (fun K hK => ?_) ?_
              · obtain ⟨a2, c2, w8, hrun9, hrw8, hgr8, _⟩ := run_appU w6 33 w3.heap.size _ s.op HROW1.out (some ⟨w3.heap.size + 1, 0, none⟩) 1 1 [(uk, ux, un, ut)] HONE.out (Nat.le_refl _) (fun e => by cases e) (by have := H8.out; omega) HW3.out.size
                have HW8 := Lib.hid (belU HROW1.out HW3.out hgr8 HW3.out.size)
                have hk9 := HK7.out _ HW8.out
                have HROW2 := Lib.hid hrw8
                clear hrw8 hgr8
                refine step_append_run (by rfl) (.tmp 25) (.tmp 27) 33 rfl _ _ _ rfl rfl hrun9 ?_
                refine hK.out _ _ ?_ (fun hH => ?_)
                · exact hk9
                clear hK K
                try simp only [pt]
                refine tkH 9 ?_ ?_ ?_
                rotate_left
                · intro w h; try dsimp only at h
                  obtain ⟨q0, q1, q2, q3, q4⟩ := h; go_simp; all_goals with_reducible rfl
                try simp only [pt]
                refine wpAnyH_done (by kernel_rfl) ?_ _
                have HB9 := Lib.hid (Below.next HB3.out HW8.out)
                have HR9 := Lib.hid (HROW2.out.lower HB3.out.size)
                clear n3 m3 hrun hrun9
                go_wp2_with fail
                go_meet
                case rel => exact ⟨a2, c2, rfl, HR9.out, HB9.out⟩
              exact AllReadyH.nil
            exact AllReadyH.nil
          exact AllReadyH.nil
        refine rdH (fun K hK => ?_) ?_
        · go_simp
          have HW1 : Hid (Below w3.heap.size w3 (w3.drew.alloc (.cells #[.string uk, .int .i64 ux, .int .i64 un, .string ut] 32))) := Lib.hid (Below.step HW0.out (.cells #[.string uk, .int .i64 ux, .int .i64 un, .string ut] 32) (Below.refl _ _))
          have hk1 := HK7.out _ HW1.out
          have HONE : Hid (IsUs (w3.drew.alloc (.cells #[.string uk, .int .i64 ux, .int .i64 un, .string ut] 32)) (some ⟨w3.heap.size, 0, none⟩) 1 [(uk, ux, un, ut)]) := Lib.hid (by
            have := isUs_one w3.drew (uk, ux, un, ut)
            rw [show w3.drew.heap.size = w3.heap.size by simp] at this
            exact this)
          refine hK.out _ _ ?_ (fun hH => ?_)
          · exact hk1
          clear hK K
          try simp only [pt]
          refine wpAnyH_ready (rs := [0]) (by kernel_rfl) (by simp) ?_
          refine rdH (fun K hK => ?_) ?_
          · go_simp
            have HW2 : Hid (Below w3.heap.size w3 ((w3.drew.alloc (.cells #[.string uk, .int .i64 ux, .int .i64 un, .string ut] 32)).alloc (.cells #[] 32))) := Lib.hid (Below.step HW1.out (.cells #[] 32) (Below.refl _ _))
            have hk2 := HK7.out _ HW2.out
            have HROW : Hid (RowU w3.heap.size ((w3.drew.alloc (.cells #[.string uk, .int .i64 ux, .int .i64 un, .string ut] 32)).alloc (.cells #[] 32)) (.slice (some ⟨w3.heap.size + 1, 0, none⟩) 0 0) []) := Lib.hid (by
              have := RowU.lower (rowU_new (w3.drew.alloc (.cells #[.string uk, .int .i64 ux, .int .i64 un, .string ut] 32))) (show w3.heap.size ≤ (w3.drew.alloc (.cells #[.string uk, .int .i64 ux, .int .i64 un, .string ut] 32)).heap.size by simp)
              rw [show (w3.drew.alloc (.cells #[.string uk, .int .i64 ux, .int .i64 un, .string ut] 32)).heap.size = w3.heap.size + 1 by simp] at this
              exact this)
            have HONE := Lib.hid (isUs_below (w' := ((w3.drew.alloc (.cells #[.string uk, .int .i64 ux, .int .i64 un, .string ut] 32)).alloc (.cells #[] 32))) HONE.out (Joins.below_alloc1 _ _))
            refine hK.out _ _ ?_ (fun hH => ?_)
            · exact hk2
            clear hK K
            try simp only [pt]
            refine wpAnyH_ready (rs := [5]) (by kernel_rfl) (by simp) ?_
            refine rdH (fun K hK => ?_) ?_
            · obtain ⟨a1, c1', w6, hrun, hrw6, hgr6, _⟩ := run_appU ((w3.drew.alloc (.cells #[.string uk, .int .i64 ux, .int .i64 un, .string ut] 32)).alloc (.cells #[] 32)) 33 w3.heap.size _ [] HROW.out ao s.op.length co s.op (isUs_below HXO.out HW2.out) HCN.out.1 HCN.out.2 (by have := H8.out; simp; omega) HW2.out.size
              simp only [List.length_nil, Nat.zero_add, List.nil_append] at hrun hrw6
              have HW3 := Lib.hid (belU HROW.out HW2.out hgr6 HW2.out.size)
              have hk3 := HK7.out _ HW3.out
              have HROW1 := Lib.hid hrw6
              have HONE := Lib.hid (isUs_keep HONE.out fun _ g off e => hgr6.block g (by cases e; first | (simp; done) | (simp; omega)) (by cases e; simp [Value.ownBlock]))
              clear hrw6 hgr6
              refine step_append_run (by rfl) (.tmp 20) (.tmp 24) 33 rfl _ _ _ rfl rfl hrun ?_
              refine hK.out _ _ ?_ (fun hH => ?_)
              · exact hk3
              clear hK K
              try simp only [pt]
              refine wpAnyH_ready (rs := [8]) (by kernel_rfl) (by simp) ?_
              refine rdH (fun K hK => ?_) ?_
              · obtain ⟨a2, c2, w8, hrun9, hrw8, hgr8, _⟩ := run_appU w6 33 w3.heap.size _ s.op HROW1.out (some ⟨w3.heap.size, 0, none⟩) 1 1 [(uk, ux, un, ut)] HONE.out (Nat.le_refl _) (fun e => by cases e) (by have := H8.out; omega) HW3.out.size
                have HW8 := Lib.hid (belU HROW1.out HW3.out hgr8 HW3.out.size)
                have hk9 := HK7.out _ HW8.out
                have HROW2 := Lib.hid hrw8
                clear hrw8 hgr8
                refine step_append_run (by rfl) (.tmp 25) (.tmp 27) 33 rfl _ _ _ rfl rfl hrun9 ?_
                refine hK.out _ _ ?_ (fun hH => ?_)
                · exact hk9
                clear hK K
                try simp only [pt]
                refine tkH 9 ?_ ?_ ?_
                rotate_left
                · intro w h; try dsimp only at h
                  obtain ⟨q0, q1, q2, q3, q4⟩ := h; go_simp; all_goals with_reducible rfl
                try simp only [pt]
                refine wpAnyH_done (by kernel_rfl) ?_ _
                have HB9 := Lib.hid (Below.next HB3.out HW8.out)
                have HR9 := Lib.hid (HROW2.out.lower HB3.out.size)
                clear n3 m3 hrun hrun9
                go_wp2_with fail
                go_meet
                case rel => exact ⟨a2, c2, rfl, HR9.out, HB9.out⟩
              exact AllReadyH.nil
            exact AllReadyH.nil
          exact AllReadyH.nil
        exact AllReadyH.nil
      case rest =>
        obtain ⟨a2, c2, rfl, hr, hb⟩ := hcut
        have c2' := (HK.out _ hb).c2
        have HI := Lib.hid (hr.isU HOL.out).1
        have HR6 := Lib.hid hr
        have HB6 := Lib.hid hb
        clear hr hb n3 m3 hk0
        go_wp2_with fail
        refine (HF2 _ _ _ HI.out).out.mono ?_
        rintro e w7 ⟨rfl, hb⟩
        have HB7 := Lib.hid (Below.next HB6.out hb)
        have HR7 := Lib.hid (HR6.out.below hb)
        clear hb c2' HI HF2 HR6
        have c6 := (HK.out _ HB7.out).c6
        have f6 := (HK.out _ HB7.out).f0 6
        have HFIN := Lib.hid (dk_open HQ.out HB7.out HR7.out HOL.out)
        go_wp2
        go_ret
        exact ⟨rfl, HFIN.out⟩
    exact AllReadyH.nil
  exact AllReadyH.nil
theorem dupd_any (u : Up) (h8 : s.op.length ≤ 8) (w : World) (h : Dk B w b D s) :
    Calls Tryd.prog 35 #[.pointer (some ⟨b, 0, none⟩), uu u] w fun e w' => e = .returned (.int .i64 (s.updE u)) ∧ ∃ D', DkW B w w' b D D' (s.upd u) := by
  obtain ⟨uk, ux, un, ut⟩ := u
  have no : ∀ er, s.updE (uk, ux, un, ut) = er → ¬ er = 0 → (Calls Tryd.prog 35 #[.pointer (some ⟨b, 0, none⟩), .agg #[.string uk, .int .i64 ux, .int .i64 un, .string ut]] w fun e w' => e = .returned (.int .i64 er) ∧ Below w.heap.size w w') → Calls Tryd.prog 35 #[.pointer (some ⟨b, 0, none⟩), uu (uk, ux, un, ut)] w fun e w' => e = .returned (.int .i64 (s.updE (uk, ux, un, ut))) ∧ ∃ D', DkW B w w' b D D' (s.upd (uk, ux, un, ut)) := fun er he h0 hc => hc.mono fun e w' ⟨h1, h2⟩ => ⟨by rw [he]; exact h1, D, by rw [upd_no (by rw [he]; exact h0)]; exact dkW_no h h2⟩
  by_cases hm : mayE (uk, ux, un, ut) = 0
  · by_cases hf : X.fitsB [(uk, ux, un, ut)] s.mtu = true
    · by_cases hf2 : X.fitsB (s.op ++ [(uk, ux, un, ut)]) s.mtu = true
      · have e0 : s.updE (uk, ux, un, ut) = 0 := by show updE _ _ _ = 0; unfold updE; rw [if_pos hm, if_pos hf, if_pos hf2]
        have e1 : s.upd (uk, ux, un, ut) = { s with op := s.op ++ [(uk, ux, un, ut)] } := by unfold Cs.upd updO; rw [if_pos (show updE _ _ _ = 0 from e0)]
        rw [e0, e1]
        exact dupd_ok uk ux un ut hm hf hf2 h8 w h
      · exact no 7 (by show updE _ _ _ = 7; unfold updE; rw [if_pos hm, if_pos hf, if_neg hf2]) (by decide) (dupd_full uk ux un ut hm hf (by simpa using hf2) h8 w h)
    · exact no 3 (by show updE _ _ _ = 3; unfold updE; rw [if_pos hm, if_neg hf]) (by decide) (dupd_long uk ux un ut hm (by simpa using hf) w h)
  · exact no _ (by show updE _ _ _ = _; unfold updE; rw [if_neg hm]) hm (dupd_may uk ux un ut hm w)
end
end Go.Proofs.YtbbgibekplfacaaDoor
