/- The walk of ClientEchoes. -/
import Derived.Test.YtbbgibekplfacaaDoorRH
import Derived.Test.YtbbgibekplfacaaDoorNI
namespace Go.Proofs.YtbbgibekplfacaaDoor
open Go Go.RowKit
set_option maxRecDepth 20000
/-- The four keys. -/
def kk (j : Nat) : ByteArray := if j = 0 then ⟨#[97]⟩ else if j = 1 then ⟨#[98]⟩ else if j = 2 then ⟨#[99]⟩ else ⟨#[107, 101, 121]⟩
theorem kk_cell (w : World) {j : Nat} (h : j < 4) : (w.alloc (.cells #[.string ⟨#[97]⟩, .string ⟨#[98]⟩, .string ⟨#[99]⟩, .string ⟨#[107, 101, 121]⟩] 9)).cell? ⟨w.heap.size, j, none⟩ = some (.string (kk j)) := by
  have hn : (w.alloc (.cells #[.string ⟨#[97]⟩, .string ⟨#[98]⟩, .string ⟨#[99]⟩, .string ⟨#[107, 101, 121]⟩] 9)).heap[w.heap.size]? = some (.cells #[.string ⟨#[97]⟩, .string ⟨#[98]⟩, .string ⟨#[99]⟩, .string ⟨#[107, 101, 121]⟩] 9 (0, 0)) := heap_alloc_new w _
  have h4 : j = 0 ∨ j = 1 ∨ j = 2 ∨ j = 3 := by omega
  rcases h4 with rfl | rfl | rfl | rfl <;> exact cell_at hn _ _ rfl
theorem key_ix (y : Int) : ∃ J : Nat, J < 4 ∧ (IntKind.u64.wrap y).tmod 4 = (J : Int) := by
  have h0 : 0 ≤ IntKind.u64.wrap y := by rw [IntKind.wrap_u64]; omega
  rw [Int.tmod_eq_emod_of_nonneg h0]
  exact ⟨((IntKind.u64.wrap y) % 4).toNat, by omega, by omega⟩
theorem drop_getL {l : List (List Up)} {k : Nat} (h : k < l.length) : l.drop k = l.getD k [] :: l.drop (k + 1) := by
  have e : l.getD k [] = l[k] := by simp [List.getD_eq_getElem?_getD, h]
  rw [e]; exact (List.drop_eq_getElem_cons h)
/-- The first pending round becomes known. -/
theorem take_own {s : Cs} (h : s.k < s.uss.length) : s.takeE (s.o, ((s.k + 1 : Nat) : Int), s.uss.getD s.k []) = 0 ∧ s.take (s.o, ((s.k + 1 : Nat) : Int), s.uss.getD s.k []) = { s with kn := s.kn ++ [(s.o, ((s.k + 1 : Nat) : Int), s.uss.getD s.k [])], k := s.k + 1 } := by
  have he : s.takeE (s.o, ((s.k + 1 : Nat) : Int), s.uss.getD s.k []) = 0 := by
    show Go.Proofs.YtbbgibekplfacaaDoor.takeE s.o s.uss.length s.k s.o ((s.k + 1 : Nat) : Int) = 0
    unfold Go.Proofs.YtbbgibekplfacaaDoor.takeE
    rw [if_pos rfl, if_pos ⟨h, rfl⟩]
  refine ⟨he, ?_⟩
  unfold Cs.take
  rw [if_pos he]
  show ({ s with kn := s.kn ++ [(s.o, ((s.k + 1 : Nat) : Int), s.uss.getD s.k [])], k := if s.o = s.o then s.k + 1 else s.k } : Cs) = _
  rw [if_pos rfl]
theorem own_seen {s : Cs} (h : s.k < s.uss.length) : seenU s.uss (s.k + 1) (s.kn ++ [(s.o, ((s.k + 1 : Nat) : Int), s.uss.getD s.k [])]) s.op = s.seen := by
  unfold Cs.seen seenU
  rw [drop_getL h]
  simp [List.flatMap_append, List.append_assoc]
theorem take_else {s : Cs} {n : Int} (h : ¬ (s.k < s.uss.length ∧ n = ((s.k + 1 : Nat) : Int))) : s.takeE (s.o, n, []) = 10 ∧ s.take (s.o, n, []) = s := by
  have he : s.takeE (s.o, n, []) = 10 := by
    show Go.Proofs.YtbbgibekplfacaaDoor.takeE s.o s.uss.length s.k s.o n = 10
    unfold Go.Proofs.YtbbgibekplfacaaDoor.takeE
    rw [if_pos rfl, if_neg h]
  refine ⟨he, ?_⟩
  unfold Cs.take
  rw [if_neg (by rw [he]; decide)]
theorem Pk.vb {w : World} {B b : Nat} {F : Nat → Prop} {s : Cs} (h : Pk B w b F s) {v : Y.Vl} : Hv (w.alloc (.cells #[.int .i64 v.1, .int .i64 v.2.1, .string v.2.2] 49)) F w.heap.size v := ⟨heap_alloc_new w _, fun e => by have := (h.foot _ e).2; omega⟩
set_option maxHeartbeats 16000000 in
theorem walkEchoes (x0 x1 x2 x3 : Int) (a : Option Addr) (len cap : Nat) (l : List Ac) (y0 y1 : Int) (w : World) (hd : X.Wd w) (h : IsAs w a len l) :
    Calls Tryd.prog 6 #[.agg #[.int .i64 x0, .int .i64 x1, .int .i64 x2, .int .i64 x3], .slice a len cap, .agg #[.int .i64 y0, .int .i64 y1]] w fun e w' => e = .returned (.bool true) ∧ Below w.heap.size w w' := by
  have hA := Joins.below_alloc2 w (.cells #[.int .i64 x0, .int .i64 x1, .int .i64 x2, .int .i64 x3] 22) (.cells #[.int .i64 y0, .int .i64 y1] 58)
  have hx : ((w.alloc (.cells #[.int .i64 x0, .int .i64 x1, .int .i64 x2, .int .i64 x3] 22)).alloc (.cells #[.int .i64 y0, .int .i64 y1] 58)).heap[w.heap.size]? = some (.cells #[.int .i64 x0, .int .i64 x1, .int .i64 x2, .int .i64 x3] 22 (0, 0)) := ((Joins.below_alloc1 (w.alloc (.cells #[.int .i64 x0, .int .i64 x1, .int .i64 x2, .int .i64 x3] 22)) (.cells #[.int .i64 y0, .int .i64 y1] 58)).block _ (by simp)).trans (heap_alloc_new w _)
  have hy : ((w.alloc (.cells #[.int .i64 x0, .int .i64 x1, .int .i64 x2, .int .i64 x3] 22)).alloc (.cells #[.int .i64 y0, .int .i64 y1] 58)).heap[w.heap.size + 1]? = some (.cells #[.int .i64 y0, .int .i64 y1] 58 (0, 0)) := by
    have := heap_alloc_new (w.alloc (.cells #[.int .i64 x0, .int .i64 x1, .int .i64 x2, .int .i64 x3] 22)) (.cells #[.int .i64 y0, .int .i64 y1] 58)
    rw [show (w.alloc (.cells #[.int .i64 x0, .int .i64 x1, .int .i64 x2, .int .i64 x3] 22)).heap.size = w.heap.size + 1 by simp] at this
    exact this
  have b0 := cell_at hx 0 _ rfl
  have b1 := cell_at hx 1 _ rfl
  have b2 := cell_at hx 2 _ rfl
  have b3 := cell_at hx 3 _ rfl
  have HX := Lib.hid hx
  have HY := Lib.hid hy
  have HB0 := Lib.hid hA
  have HD := Lib.hid (hd.below hA)
  have H := Lib.hid (isAs_below h hA)
  clear hx hy hA hd h
  go_enter Tryd.func6, Tryd.ntmps6
  go_wp2_with fail
  clear b0 b1 b2 b3
  generalize hxb : w.heap.size = xb at HX HY ⊢
  clear hxb
  generalize (w.alloc (.cells #[.int .i64 x0, .int .i64 x1, .int .i64 x2, .int .i64 x3] 22)).alloc (.cells #[.int .i64 y0, .int .i64 y1] 58) = W at *
  refine (made_any x0 x1 x2 x3 W).mono ?_
  rintro e w1 ⟨cb, db, rfl, P0, D0, hq⟩
  have hk := Kl.start hq
  have k0 := hk.kb.c0
  have HK1 := Lib.hid hk
  clear hk hq
  go_wp2_with fail
  clear k0
  generalize w1.heap.size = g at *
  generalize w1.alloc (.cells #[.pointer (some ⟨cb, 0, none⟩), .pointer (some ⟨db, 0, none⟩)] 27) = w2 at *
  obtain ⟨J, hJ, hJe⟩ := key_ix y0
  have hJ4 : ((J : Nat) : Int) < 4 := by omega
  go_upto_region 2 with fail
  have HJ := Lib.hid hJ
  have HK1a := Lib.hid (HK1.out.next (Below.refl _ _).drew)
  refine wp_region_held_drew (S := fun w' => w'.cell? ⟨xb + 1, 0, none⟩ = some (.int .i64 y0) ∧ w'.cell? ⟨xb + 1, 1, none⟩ = some (.int .i64 y1)) (by kernel_rfl) ?_ (fun hH => ?_)
  · exact ⟨cell_at ((HK1a.out.bel.block _ (Array.getElem?_eq_some_iff.1 HY.out).1).trans HY.out) 0 _ rfl, cell_at ((HK1a.out.bel.block _ (Array.getElem?_eq_some_iff.1 HY.out).1).trans HY.out) 1 _ rfl⟩
  refine tkH 1 ?_ ?_ ?_
  rotate_left
  · intro w h; try dsimp only at h
    obtain ⟨q0, q1⟩ := h; go_simp; all_goals with_reducible rfl
  try simp only [pt]
  refine tkH 2 ?_ ?_ ?_
  rotate_left
  · intro w h; try dsimp only at h
    obtain ⟨q0, q1⟩ := h; go_simp; all_goals with_reducible rfl
  try simp only [pt]
  refine tkH 3 ?_ ?_ ?_
  rotate_left
  · intro w h; try dsimp only at h
    obtain ⟨q0, q1⟩ := h; go_simp; all_goals with_reducible rfl
  try simp only [pt]
  refine tkH 4 ?_ ?_ ?_
  rotate_left
  · intro w h; try dsimp only at h
    obtain ⟨q0, q1⟩ := h; go_simp; all_goals with_reducible rfl
  try simp only [pt]
  refine tkH 7 ?_ ?_ ?_
  rotate_left
  · intro w h; try dsimp only at h
    obtain ⟨q0, q1⟩ := h; go_simp; all_goals with_reducible rfl
  try simp only [pt]
  refine tkH 8 ?_ ?_ ?_
  rotate_left
  · intro w h; try dsimp only at h
    obtain ⟨q0, q1⟩ := h; go_simp; all_goals with_reducible rfl
  try simp only [pt]
  refine wpAnyH_ready (rs := [0]) (by kernel_rfl) (by simp) ?_
  refine rdH (fun K hK => ?_) ?_
  · go_simp
    have hK2 := (HK1.out.next (Joins.below_alloc1 w2 (.cells #[.string ⟨#[97]⟩, .string ⟨#[98]⟩, .string ⟨#[99]⟩, .string ⟨#[107, 101, 121]⟩] 9))).next (Below.refl _ _).drew
    have hs2 : (w2.alloc (.cells #[.string ⟨#[97]⟩, .string ⟨#[98]⟩, .string ⟨#[99]⟩, .string ⟨#[107, 101, 121]⟩] 9)).drew.cell? ⟨xb + 1, 0, none⟩ = some (.int .i64 y0) ∧ (w2.alloc (.cells #[.string ⟨#[97]⟩, .string ⟨#[98]⟩, .string ⟨#[99]⟩, .string ⟨#[107, 101, 121]⟩] 9)).drew.cell? ⟨xb + 1, 1, none⟩ = some (.int .i64 y1) := ⟨cell_at ((hK2.bel.block _ (Array.getElem?_eq_some_iff.1 HY.out).1).trans HY.out) 0 _ rfl, cell_at ((hK2.bel.block _ (Array.getElem?_eq_some_iff.1 HY.out).1).trans HY.out) 1 _ rfl⟩
    have hkk : (w2.alloc (.cells #[.string ⟨#[97]⟩, .string ⟨#[98]⟩, .string ⟨#[99]⟩, .string ⟨#[107, 101, 121]⟩] 9)).drew.cell? ⟨w2.heap.size, J, none⟩ = some (.string (kk J)) := kk_cell w2 HJ.out
    have hs2b : ((w2.alloc (.cells #[.string ⟨#[97]⟩, .string ⟨#[98]⟩, .string ⟨#[99]⟩, .string ⟨#[107, 101, 121]⟩] 9)).drew.cell? ⟨xb + 1, 0, none⟩ = some (.int .i64 y0) ∧ (w2.alloc (.cells #[.string ⟨#[97]⟩, .string ⟨#[98]⟩, .string ⟨#[99]⟩, .string ⟨#[107, 101, 121]⟩] 9)).drew.cell? ⟨xb + 1, 1, none⟩ = some (.int .i64 y1)) ∧ (w2.alloc (.cells #[.string ⟨#[97]⟩, .string ⟨#[98]⟩, .string ⟨#[99]⟩, .string ⟨#[107, 101, 121]⟩] 9)).drew.cell? ⟨w2.heap.size, J, none⟩ = some (.string (kk J)) := ⟨hs2, hkk⟩
    have HK1b := Lib.hid hK2
    clear hK2
    refine hK.out _ _ ?_ (fun hH => ?_)
    · exact hs2
    clear hK K
    try simp only [pt]
    refine wpAnyH_more (S' := fun w' => (w'.cell? ⟨xb + 1, 0, none⟩ = some (.int .i64 y0) ∧ w'.cell? ⟨xb + 1, 1, none⟩ = some (.int .i64 y1)) ∧ w'.cell? ⟨w2.heap.size, J, none⟩ = some (.string (kk J))) (fun _ h => h.1) _ _ _ _ ?_
    refine tkH 5 ?_ ?_ ?_
    rotate_left
    · intro w h; try dsimp only at h
      obtain ⟨⟨q0, q1⟩, q2⟩ := h; go_simp; all_goals with_reducible rfl
    try simp only [pt]
    refine tkH 6 ?_ ?_ ?_
    rotate_left
    · intro w h; try dsimp only at h
      obtain ⟨⟨q0, q1⟩, q2⟩ := h; go_simp; all_goals with_reducible rfl
    try simp only [pt]
    refine tkH 9 ?_ ?_ ?_
    rotate_left
    · intro w h; try dsimp only at h
      obtain ⟨⟨q0, q1⟩, q2⟩ := h; go_simp; all_goals with_reducible rfl
    try simp only [pt]
    refine tkH 10 ?_ ?_ ?_
    rotate_left
    · intro w h; try dsimp only at h
      obtain ⟨⟨q0, q1⟩, q2⟩ := h; go_simp; all_goals with_reducible rfl
    try simp only [pt]
    refine wpAnyH_done (by kernel_rfl) ?_ _
    clear hs2 hs2b hkk HK1 HK1a
    clear hJe hJ hJ4
    generalize w2.heap.size = sb at *
    generalize (w2.alloc (.cells #[.string ⟨#[97]⟩, .string ⟨#[98]⟩, .string ⟨#[99]⟩, .string ⟨#[107, 101, 121]⟩] 9)).drew = w2 at *
    generalize kk J = key at *
    go_wp2_with fail
    refine (awake_any w2 (HD.out.below HK1b.out.bel)).mono ?_
    rintro e w3 ⟨rfl, hb⟩
    have HK2 := Lib.hid (HK1b.out.next hb)
    have k0 := HK2.out.kb.c0
    clear hb HK1b
    go_wp2_with fail
    clear k0
    refine (great_any a len cap l w3 (isAs_below H.out HK2.out.bel)).mono ?_
    rintro e w4 ⟨⟨bt, rfl, hok⟩, hb⟩
    have HK3 := Lib.hid (HK2.out.next hb)
    clear hb HK2
    cases bt with
    | true =>
      clear hok
      go_wp2_with fail
      refine (awake_any w4 (HD.out.below HK3.out.bel)).mono ?_
      rintro e w5 ⟨rfl, hb⟩
      have HK4 := Lib.hid (HK3.out.next hb)
      clear hb HK3
      go_wp2
      go_ret
      exact ⟨rfl, Below.next HB0.out HK4.out.bel⟩
    | false =>
      obtain ⟨hl50, hok⟩ := hok rfl
      have HOK := Lib.hid hok
      clear hok
      go_wp2_with fail
      go_loopw [40] (fun v wr => ∃ k : Nat, k ≤ len ∧ v = .int .i64 k ∧ ∃ P D s, Kl W wr g cb db P D k s ∧ s.Wf x0) (fun v _ => len - (intOf v).toNat)
      case atStart => exact ⟨0, Nat.zero_le _, rfl, P0, D0, _, HK3.out, wf_new x0 x1 x2 x3⟩
      case round =>
        obtain ⟨k, hk, rfl, P, D, s, hst, hwf⟩ := hrel
        clear HK3
        by_cases hlt : k < len
        · have HWF := Lib.hid hwf
          clear hwf
          have hbel := hst.bel
          obtain ⟨b, off, rfl, c0, c1, c2, c3, c4, c5, c6, c7⟩ := acells_of H.out hbel hlt
          have hru := H.out.each k hlt
          have hok := HOK.out k hlt
          generalize l.getD k ac0 = x at *
          obtain ⟨kd, ⟨uk, ux, un, ut⟩, ⟨ro, rn, ra, rl, rc, rus⟩⟩ := x
          simp only at c0 c1 c2 c3 c4 c5 c6 c7 hru
          have hA := Joins.below_alloc1 wr (.cells #[.int .i64 kd, .string uk, .int .i64 ux, .int .i64 un, .string ut, .int .i64 ro, .int .i64 rn, .slice ra rl rc] 37)
          have hab : Ab (wr.alloc (.cells #[.int .i64 kd, .string uk, .int .i64 ux, .int .i64 un, .string ut, .int .i64 ro, .int .i64 rn, .slice ra rl rc] 37)) wr.heap.size kd uk ux un ut ro rn ra rl rc := heap_alloc_new wr _
          have HLOW : Hid (0 < rl → ∀ g off, ra = some ⟨g, off, none⟩ → g < W.heap.size) := Lib.hid fun h0 g off e => Rn.us_in hru h0 e
          have HRU := Lib.hid ((hru.below hbel).below hA)
          have HOKA := Lib.hid hok
          have HAB := Lib.hid hab
          have HK := Lib.hid (hst.next hA)
          have hff : ¬ Kf W P D wr.heap.size := fun e => by have := hst.kq.foot _ e; omega
          have HFF := Lib.hid hff
          clear hbel hru hok hA hab hff hst
          have a0 := HAB.out.c0
          obtain ⟨a1, a2, a3, a4⟩ := HAB.out.up
          obtain ⟨a5, a6, a7⟩ := HAB.out.rd
          have k0 := HK.out.kb.c0
          have k1 := HK.out.kb.c1
          go_wp2_with fail
          refine (do_any kd uk ux un ut ro rn ra rl rc rus (by omega) (wr.alloc (.cells #[.int .i64 kd, .string uk, .int .i64 ux, .int .i64 un, .string ut, .int .i64 ro, .int .i64 rn, .slice ra rl rc] 37)) HD.out HOKA.out HRU.out HLOW.out HK.out.kq).mono ?_
          rintro e w7 ⟨rfl, P2, D2, hdo⟩
          have HK7 := Lib.hid (HK.out.step hdo)
          clear hdo
          clear a0 a1 a2 a3 a4 a5 a6 a7 k0 k1
          go_wp2
          go_roundw
          case rel => exact ⟨k + 1, by omega, by go_num, P2, D2, _, HK7.out, HWF.out.act _⟩
          case measure => simp [intOf]; omega
        · obtain rfl : k = len := by omega
          have HWF := Lib.hid hwf
          have HK6 := Lib.hid hst
          have HO := Lib.hid hst.kq.ok
          have hlen := HO.out.len
          have hkk := HO.out.k
          have HSN : Hid (s.seen.length ≤ 1000 ∧ ∀ u ∈ s.seen, u.1.size ≤ 1000 ∧ Y.Sh u.2.2.2) := Lib.hid ⟨by have := HO.out.seen.1; omega, HO.out.seen.2⟩
          have k0 := hst.kb.c0
          clear hst hwf
          go_wp2_with fail
          refine (cpend_any (s := s) HO.out.k (by omega) wr HK6.out.kq.pk).mono ?_
          rintro e w7 ⟨gp, xp, rfl, hrz, hgp, how, hof, hb⟩
          have hlp : xp.length = s.uss.length - s.k := by rw [hof.len, List.length_drop]
          have HMP := Lib.hid hof
          have HXP7 := Lib.hid (Hx.new HK6.out.kq.pk hrz hgp how)
          have KA7 := Lib.hid (HK6.out.next hb).alone
          obtain ⟨⟨v1, v2, v3⟩, HEQ⟩ : ∃ r, Hid (Y.stF s.seen (Y.ky key) = r) := ⟨_, Lib.hid rfl⟩
          clear hb hrz hgp how hof k0 HK6
          go_upto_region 11 with fail
          go_cut [13, 14] from 51 (fun v13 v14 wx => ∃ gv, v13 = .pointer (some ⟨gv, 0, none⟩) ∧ v14 = .int .i64 ((s.kn.length : Nat) : Int) ∧ Ka W wx g cb db P D s s ∧ Hx wx P gp xp ∧ Hv wx P gv (v1, v2, v3))
          case first =>
            have KA8 := Lib.hid (KA7.out.next (Below.refl _ _).drew)
            have HXP8 := Lib.hid (HXP7.out.next (Below.refl _ _).drew)
            refine wp_region_held_drew (S := fun w' => w'.cell? ⟨g, 0, none⟩ = some (.pointer (some ⟨cb, 0, none⟩)) ∧ w'.cell? ⟨g, 1, none⟩ = some (.pointer (some ⟨db, 0, none⟩))) (by kernel_rfl) ?_ (fun hH => ?_)
            · exact ⟨KA8.out.kb.c0, KA8.out.kb.c1⟩
            generalize w7.drew = w8 at *
            refine tkH 0 ?_ ?_ ?_
            rotate_left
            · intro w h; try dsimp only at h
              obtain ⟨q0, q1⟩ := h; go_simp; all_goals with_reducible rfl
            try simp only [pt]
            refine tkH 1 ?_ ?_ ?_
            rotate_left
            · intro w h; try dsimp only at h
              obtain ⟨q0, q1⟩ := h; go_simp; all_goals with_reducible rfl
            try simp only [pt]
            refine tkH 2 ?_ ?_ ?_
            rotate_left
            · intro w h; try dsimp only at h
              obtain ⟨q0, q1⟩ := h; go_simp; all_goals with_reducible rfl
            try simp only [pt]
            refine tkH 4 ?_ ?_ ?_
            rotate_left
            · intro w h; try dsimp only at h
              obtain ⟨q0, q1⟩ := h; go_simp; all_goals with_reducible rfl
            try simp only [pt]
            refine tkH 5 ?_ ?_ ?_
            rotate_left
            · intro w h; try dsimp only at h
              obtain ⟨q0, q1⟩ := h; go_simp; all_goals with_reducible rfl
            try simp only [pt]
            refine wpAnyH_ready (rs := [3, 8]) (by kernel_rfl) (by simp) ?_
            refine rdH (fun K hK => ?_) ?_
            · go_simp
              refine (cread_any (s := s) key HO.out.k (by omega) HSN.out w8 KA8.out.pk).mono ?_
              rintro e w9 ⟨rfl, hb⟩
              rw [HEQ.out]
              simp only [Y.vv_eq]
              have HXP9 := Lib.hid (HXP8.out.next hb)
              have KA9 := Lib.hid (KA8.out.next hb)
              have hs9 : w9.cell? ⟨g, 0, none⟩ = some (.pointer (some ⟨cb, 0, none⟩)) ∧ w9.cell? ⟨g, 1, none⟩ = some (.pointer (some ⟨db, 0, none⟩)) := ⟨KA9.out.kb.c0, KA9.out.kb.c1⟩
              clear hb
              go_wp2_with fail
              refine hK.out _ _ ?_ (fun hH => ?_)
              · exact hs9
              clear hK K
              try simp only [pt]
              refine wpAnyH_ready (rs := [6, 8]) (by kernel_rfl) (by simp) ?_
              refine rdH (fun K hK => ?_) ?_
              · go_simp
                refine (cknown_any (s := s) (by omega) (fun r hr => (HO.out.sk r hr).sm) w9 KA9.out.pk).mono ?_
                rintro e w10 ⟨g10, x10, rfl, -, -, -, -, hb⟩
                have HXP10 := Lib.hid (HXP9.out.next hb)
                have KA10 := Lib.hid (KA9.out.next hb)
                have hs10 : w10.cell? ⟨g, 0, none⟩ = some (.pointer (some ⟨cb, 0, none⟩)) ∧ w10.cell? ⟨g, 1, none⟩ = some (.pointer (some ⟨db, 0, none⟩)) := ⟨KA10.out.kb.c0, KA10.out.kb.c1⟩
                clear hb
                go_wp2_with fail
                refine hK.out _ _ ?_ (fun hH => ?_)
                · exact hs10
                clear hK K
                try simp only [pt]
                refine tkH 7 ?_ ?_ ?_
                rotate_left
                · intro w h; try dsimp only at h
                  obtain ⟨q0, q1⟩ := h; go_simp; all_goals with_reducible rfl
                try simp only [pt]
                refine wpAnyH_ready (rs := [8]) (by kernel_rfl) (by simp) ?_
                refine rdH (fun K hK => ?_) ?_
                · go_simp
                  have HXP11 := Lib.hid (HXP10.out.fence (.cells #[.int .i64 0, .int .i64 0, .string ⟨#[]⟩] 49))
                  have HZ11 := Lib.hid (Kz.make KA10.out)
                  have hs11 : (w10.alloc (.cells #[.int .i64 0, .int .i64 0, .string ⟨#[]⟩] 49)).cell? ⟨g, 0, none⟩ = some (.pointer (some ⟨cb, 0, none⟩)) ∧ (w10.alloc (.cells #[.int .i64 0, .int .i64 0, .string ⟨#[]⟩] 49)).cell? ⟨g, 1, none⟩ = some (.pointer (some ⟨db, 0, none⟩)) := ⟨HZ11.out.ka.kb.c0, HZ11.out.ka.kb.c1⟩
                  refine hK.out _ _ ?_ (fun hH => ?_)
                  · exact hs11
                  clear hK K
                  try simp only [pt]
                  generalize w10.heap.size = gv at *
                  generalize w10.alloc (.cells #[.int .i64 0, .int .i64 0, .string ⟨#[]⟩] 49) = w11 at *
                  refine wpAnyH_ready (rs := [9]) (by kernel_rfl) (by simp) ?_
                  refine rdH (fun K hK => ?_) ?_
                  · obtain ⟨z0, z1, z2⟩ := Y.Vb.c HZ11.out.vb
                    have p0 := Y.unfrozen_at HZ11.out.vb 0
                    have p1 := Y.unfrozen_at HZ11.out.vb 1
                    have p2 := Y.unfrozen_at HZ11.out.vb 2
                    have hst := HZ11.out.store v1 v2 v3
                    have hs12 : (((w11.setCell ⟨gv, 0, none⟩ (.int .i64 v1)).setCell ⟨gv, 1, none⟩ (.int .i64 v2)).setCell ⟨gv, 2, none⟩ (.string v3)).cell? ⟨g, 0, none⟩ = some (.pointer (some ⟨cb, 0, none⟩)) ∧ (((w11.setCell ⟨gv, 0, none⟩ (.int .i64 v1)).setCell ⟨gv, 1, none⟩ (.int .i64 v2)).setCell ⟨gv, 2, none⟩ (.string v3)).cell? ⟨g, 1, none⟩ = some (.pointer (some ⟨db, 0, none⟩)) := ⟨hst.1.kb.c0, hst.1.kb.c1⟩
                    have HST := Lib.hid hst
                    clear hst
                    go_simp
                    refine hK.out _ _ ?_ (fun hH => ?_)
                    · exact hs12
                    clear hK K
                    try simp only [pt]
                    refine tkH 10 ?_ ?_ ?_
                    rotate_left
                    · intro w h; try dsimp only at h
                      obtain ⟨q0, q1⟩ := h; go_simp; all_goals with_reducible rfl
                    try simp only [pt]
                    refine wpAnyH_done (by kernel_rfl) ?_ _
                    clear hs12 z0 z1 z2 p0 p1 p2
                    go_wp2_with fail
                    go_meet
                    case rel => exact ⟨gv, rfl, rfl, HST.out.1, HXP11.out.own' (lv_set3 _ _ _ _ _), HST.out.2⟩
                  exact AllReadyH.nil
                exact AllReadyH.nil
              refine rdH (fun K hK => ?_) ?_
              · go_simp
                have HXP10 := Lib.hid (HXP9.out.fence (.cells #[.int .i64 0, .int .i64 0, .string ⟨#[]⟩] 49))
                have HZ10 := Lib.hid (Kz.make KA9.out)
                have hs10 : (w9.alloc (.cells #[.int .i64 0, .int .i64 0, .string ⟨#[]⟩] 49)).cell? ⟨g, 0, none⟩ = some (.pointer (some ⟨cb, 0, none⟩)) ∧ (w9.alloc (.cells #[.int .i64 0, .int .i64 0, .string ⟨#[]⟩] 49)).cell? ⟨g, 1, none⟩ = some (.pointer (some ⟨db, 0, none⟩)) := ⟨HZ10.out.ka.kb.c0, HZ10.out.ka.kb.c1⟩
                refine hK.out _ _ ?_ (fun hH => ?_)
                · exact hs10
                clear hK K
                try simp only [pt]
                generalize w9.heap.size = gv at *
                generalize w9.alloc (.cells #[.int .i64 0, .int .i64 0, .string ⟨#[]⟩] 49) = w10 at *
                refine wpAnyH_ready (rs := [6]) (by kernel_rfl) (by simp) ?_
                refine rdH (fun K hK => ?_) ?_
                · go_simp
                  refine (cknown_any (s := s) (by omega) (fun r hr => (HO.out.sk r hr).sm) w10 HZ10.out.ka.pk).mono ?_
                  rintro e w11 ⟨g11, x11, rfl, -, -, -, -, hb⟩
                  have HXP11 := Lib.hid (HXP10.out.next hb)
                  have HZ11 := Lib.hid (HZ10.out.next hb)
                  have hs11 : w11.cell? ⟨g, 0, none⟩ = some (.pointer (some ⟨cb, 0, none⟩)) ∧ w11.cell? ⟨g, 1, none⟩ = some (.pointer (some ⟨db, 0, none⟩)) := ⟨HZ11.out.ka.kb.c0, HZ11.out.ka.kb.c1⟩
                  clear hb
                  go_wp2_with fail
                  refine hK.out _ _ ?_ (fun hH => ?_)
                  · exact hs11
                  clear hK K
                  try simp only [pt]
                  refine tkH 7 ?_ ?_ ?_
                  rotate_left
                  · intro w h; try dsimp only at h
                    obtain ⟨q0, q1⟩ := h; go_simp; all_goals with_reducible rfl
                  try simp only [pt]
                  refine wpAnyH_ready (rs := [9]) (by kernel_rfl) (by simp) ?_
                  refine rdH (fun K hK => ?_) ?_
                  · obtain ⟨z0, z1, z2⟩ := Y.Vb.c HZ11.out.vb
                    have p0 := Y.unfrozen_at HZ11.out.vb 0
                    have p1 := Y.unfrozen_at HZ11.out.vb 1
                    have p2 := Y.unfrozen_at HZ11.out.vb 2
                    have hst := HZ11.out.store v1 v2 v3
                    have hs12 : (((w11.setCell ⟨gv, 0, none⟩ (.int .i64 v1)).setCell ⟨gv, 1, none⟩ (.int .i64 v2)).setCell ⟨gv, 2, none⟩ (.string v3)).cell? ⟨g, 0, none⟩ = some (.pointer (some ⟨cb, 0, none⟩)) ∧ (((w11.setCell ⟨gv, 0, none⟩ (.int .i64 v1)).setCell ⟨gv, 1, none⟩ (.int .i64 v2)).setCell ⟨gv, 2, none⟩ (.string v3)).cell? ⟨g, 1, none⟩ = some (.pointer (some ⟨db, 0, none⟩)) := ⟨hst.1.kb.c0, hst.1.kb.c1⟩
                    have HST := Lib.hid hst
                    clear hst
                    go_simp
                    refine hK.out _ _ ?_ (fun hH => ?_)
                    · exact hs12
                    clear hK K
                    try simp only [pt]
                    refine tkH 10 ?_ ?_ ?_
                    rotate_left
                    · intro w h; try dsimp only at h
                      obtain ⟨q0, q1⟩ := h; go_simp; all_goals with_reducible rfl
                    try simp only [pt]
                    refine wpAnyH_done (by kernel_rfl) ?_ _
                    clear hs12 z0 z1 z2 p0 p1 p2
                    go_wp2_with fail
                    go_meet
                    case rel => exact ⟨gv, rfl, rfl, HST.out.1, HXP11.out.own' (lv_set3 _ _ _ _ _), HST.out.2⟩
                  exact AllReadyH.nil
                exact AllReadyH.nil
              exact AllReadyH.nil
            refine rdH (fun K hK => ?_) ?_
            · go_simp
              have HXP9 := Lib.hid (HXP8.out.fence (.cells #[.int .i64 0, .int .i64 0, .string ⟨#[]⟩] 49))
              have HZ9 := Lib.hid (Kz.make KA8.out)
              have hs9 : (w8.alloc (.cells #[.int .i64 0, .int .i64 0, .string ⟨#[]⟩] 49)).cell? ⟨g, 0, none⟩ = some (.pointer (some ⟨cb, 0, none⟩)) ∧ (w8.alloc (.cells #[.int .i64 0, .int .i64 0, .string ⟨#[]⟩] 49)).cell? ⟨g, 1, none⟩ = some (.pointer (some ⟨db, 0, none⟩)) := ⟨HZ9.out.ka.kb.c0, HZ9.out.ka.kb.c1⟩
              refine hK.out _ _ ?_ (fun hH => ?_)
              · exact hs9
              clear hK K
              try simp only [pt]
              generalize w8.heap.size = gv at *
              generalize w8.alloc (.cells #[.int .i64 0, .int .i64 0, .string ⟨#[]⟩] 49) = w9 at *
              refine wpAnyH_ready (rs := [3]) (by kernel_rfl) (by simp) ?_
              refine rdH (fun K hK => ?_) ?_
              · go_simp
                refine (cread_any (s := s) key HO.out.k (by omega) HSN.out w9 HZ9.out.ka.pk).mono ?_
                rintro e w10 ⟨rfl, hb⟩
                rw [HEQ.out]
                simp only [Y.vv_eq]
                have HXP10 := Lib.hid (HXP9.out.next hb)
                have HZ10 := Lib.hid (HZ9.out.next hb)
                have hs10 : w10.cell? ⟨g, 0, none⟩ = some (.pointer (some ⟨cb, 0, none⟩)) ∧ w10.cell? ⟨g, 1, none⟩ = some (.pointer (some ⟨db, 0, none⟩)) := ⟨HZ10.out.ka.kb.c0, HZ10.out.ka.kb.c1⟩
                clear hb
                go_wp2_with fail
                refine hK.out _ _ ?_ (fun hH => ?_)
                · exact hs10
                clear hK K
                try simp only [pt]
                refine wpAnyH_ready (rs := [6]) (by kernel_rfl) (by simp) ?_
                refine rdH (fun K hK => ?_) ?_
                · go_simp
                  refine (cknown_any (s := s) (by omega) (fun r hr => (HO.out.sk r hr).sm) w10 HZ10.out.ka.pk).mono ?_
                  rintro e w11 ⟨g11, x11, rfl, -, -, -, -, hb⟩
                  have HXP11 := Lib.hid (HXP10.out.next hb)
                  have HZ11 := Lib.hid (HZ10.out.next hb)
                  have hs11 : w11.cell? ⟨g, 0, none⟩ = some (.pointer (some ⟨cb, 0, none⟩)) ∧ w11.cell? ⟨g, 1, none⟩ = some (.pointer (some ⟨db, 0, none⟩)) := ⟨HZ11.out.ka.kb.c0, HZ11.out.ka.kb.c1⟩
                  clear hb
                  go_wp2_with fail
                  refine hK.out _ _ ?_ (fun hH => ?_)
                  · exact hs11
                  clear hK K
                  try simp only [pt]
                  refine tkH 7 ?_ ?_ ?_
                  rotate_left
                  · intro w h; try dsimp only at h
                    obtain ⟨q0, q1⟩ := h; go_simp; all_goals with_reducible rfl
                  try simp only [pt]
                  refine wpAnyH_ready (rs := [9]) (by kernel_rfl) (by simp) ?_
                  refine rdH (fun K hK => ?_) ?_
                  · obtain ⟨z0, z1, z2⟩ := Y.Vb.c HZ11.out.vb
                    have p0 := Y.unfrozen_at HZ11.out.vb 0
                    have p1 := Y.unfrozen_at HZ11.out.vb 1
                    have p2 := Y.unfrozen_at HZ11.out.vb 2
                    have hst := HZ11.out.store v1 v2 v3
                    have hs12 : (((w11.setCell ⟨gv, 0, none⟩ (.int .i64 v1)).setCell ⟨gv, 1, none⟩ (.int .i64 v2)).setCell ⟨gv, 2, none⟩ (.string v3)).cell? ⟨g, 0, none⟩ = some (.pointer (some ⟨cb, 0, none⟩)) ∧ (((w11.setCell ⟨gv, 0, none⟩ (.int .i64 v1)).setCell ⟨gv, 1, none⟩ (.int .i64 v2)).setCell ⟨gv, 2, none⟩ (.string v3)).cell? ⟨g, 1, none⟩ = some (.pointer (some ⟨db, 0, none⟩)) := ⟨hst.1.kb.c0, hst.1.kb.c1⟩
                    have HST := Lib.hid hst
                    clear hst
                    go_simp
                    refine hK.out _ _ ?_ (fun hH => ?_)
                    · exact hs12
                    clear hK K
                    try simp only [pt]
                    refine tkH 10 ?_ ?_ ?_
                    rotate_left
                    · intro w h; try dsimp only at h
                      obtain ⟨q0, q1⟩ := h; go_simp; all_goals with_reducible rfl
                    try simp only [pt]
                    refine wpAnyH_done (by kernel_rfl) ?_ _
                    clear hs12 z0 z1 z2 p0 p1 p2
                    go_wp2_with fail
                    go_meet
                    case rel => exact ⟨gv, rfl, rfl, HST.out.1, HXP11.out.own' (lv_set3 _ _ _ _ _), HST.out.2⟩
                  exact AllReadyH.nil
                exact AllReadyH.nil
              exact AllReadyH.nil
            exact AllReadyH.nil
          case rest =>
            obtain ⟨gv, rfl, rfl, ka, hx, hv⟩ := hcut
            have KA10 := Lib.hid ka
            have HXP10 := Lib.hid hx
            have HV10 := Lib.hid hv
            clear ka hv KA7 HXP7
            by_cases hpk : s.k < s.uss.length
            · have h0 : 0 < xp.length := by omega
              have q9 : decide ((0 : Int) < ((s.uss.length - s.k : Nat) : Int)) = true := decide_eq_true (by omega)
              have q8 : (0 : Int) < ((s.uss.length - s.k : Nat) : Int) := by omega
              have q7 : 0 < s.uss.length - s.k := by omega
              have hp1 := HMP.out.at' 0 (by rw [List.length_drop]; omega)
              have hp3 : (s.uss.drop s.k).getD 0 [] = s.uss.getD s.k [] := by simp [List.getD_eq_getElem?_getD, List.getElem?_drop]
              rw [hp3, Nat.add_zero] at hp1
              have hkr : kR (xp.getD 0 rn0) = (s.o, ((s.k + 1 : Nat) : Int), s.uss.getD s.k []) := by unfold kR; rw [hp1.1, hp1.2.1, hp1.2.2]
              have HSM : Hid (Sm (xp.getD 0 rn0).us) := Lib.hid (by rw [hp1.2.2]; exact (HO.out.su _ (mem_getL hpk)).sm)
              have hru := HXP10.out.ru (rn_mem h0)
              have HROW : Hid (∀ w', Rz w' gp xp → w'.cell? ⟨gp, 0, none⟩ = some (.int .i64 (xp.getD 0 rn0).o) ∧ w'.cell? ⟨gp, 1, none⟩ = some (.int .i64 (xp.getD 0 rn0).n) ∧ w'.cell? ⟨gp, 2, none⟩ = some (.slice (xp.getD 0 rn0).a (xp.getD 0 rn0).len (xp.getD 0 rn0).cap)) := Lib.hid fun w' h => by
                have := h.row 0 h0
                rw [Nat.zero_mul] at this
                exact this
              have hn1 : (xp.getD 0 rn0).n = ((s.k + 1 : Nat) : Int) := hp1.2.1
              have KR := Lib.hid hkr
              have HRU := Lib.hid hru
              clear hp1 hp3 hkr hru
              generalize xp.getD 0 rn0 = r at *
              obtain ⟨ro, rn, ra, rl, rc, rus⟩ := r
              simp only at HROW hn1
              obtain ⟨d0, d1, d2⟩ := HROW.out _ HXP10.out.rz
              have HN1 := Lib.hid hn1
              clear hn1 h0
              clear hx
              by_cases hne' : y1 = rn
              · have e9 : (y1 == rn) = true := beq_iff_eq.2 hne'
                go_upto_region 13 with fail
                obtain ⟨hto, htk⟩ := take_own hpk
                have hsn := own_seen hpk
                have HO2 := Lib.hid (HO.out.take (r := (s.o, ((s.k + 1 : Nat) : Int), s.uss.getD s.k [])) (HO.out.su _ (mem_getL hpk)))
                rw [htk] at HO2
                have HTO := Lib.hid hto
                have HTK := Lib.hid htk
                have HEQ2 : Hid (Y.stF (Cs.seen { s with kn := s.kn ++ [(s.o, ((s.k + 1 : Nat) : Int), s.uss.getD s.k [])], k := s.k + 1 }) (Y.ky key) = (v1, v2, v3)) := Lib.hid (by rw [show Cs.seen { s with kn := s.kn ++ [(s.o, ((s.k + 1 : Nat) : Int), s.uss.getD s.k [])], k := s.k + 1 } = s.seen from hsn]; exact HEQ.out)
                have HSN2 : Hid ((Cs.seen { s with kn := s.kn ++ [(s.o, ((s.k + 1 : Nat) : Int), s.uss.getD s.k [])], k := s.k + 1 }).length ≤ 1000 ∧ ∀ u ∈ Cs.seen { s with kn := s.kn ++ [(s.o, ((s.k + 1 : Nat) : Int), s.uss.getD s.k [])], k := s.k + 1 }, u.1.size ≤ 1000 ∧ Y.Sh u.2.2.2) := Lib.hid (by rw [show Cs.seen { s with kn := s.kn ++ [(s.o, ((s.k + 1 : Nat) : Int), s.uss.getD s.k [])], k := s.k + 1 } = s.seen from hsn]; exact HSN.out)
                have e1 : IntKind.i64.wrap (((s.uss.length - s.k : Nat) : Int) - 1) = ((s.uss.length - (s.k + 1) : Nat) : Int) := by
                  rw [show ((s.uss.length - s.k : Nat) : Int) - 1 = ((s.uss.length - (s.k + 1) : Nat) : Int) by omega]
                  exact i64_id (by omega) (by omega)
                have e2 : IntKind.i64.wrap (((s.kn.length : Nat) : Int) + 1) = (((s.kn ++ [((s.o, ((s.k + 1 : Nat) : Int), s.uss.getD s.k []) : Cr)]).length : Nat) : Int) := by
                  rw [show ((s.kn.length : Nat) : Int) + 1 = (((s.kn ++ [((s.o, ((s.k + 1 : Nat) : Int), s.uss.getD s.k []) : Cr)]).length : Nat) : Int) by rw [List.length_append, List.length_singleton]; omega]
                  exact i64_id (by omega) (by rw [List.length_append, List.length_singleton]; omega)
                have hkl : (s.kn ++ [((s.o, ((s.k + 1 : Nat) : Int), s.uss.getD s.k []) : Cr)]).length ≤ 1000 := by rw [List.length_append, List.length_singleton]; omega
                have hkl2 : (s.kn ++ [((s.o, ((s.k + 1 : Nat) : Int), s.uss.getD s.k []) : Cr)]).length + s.uss.length ≤ 1000 := by rw [List.length_append, List.length_singleton]; omega
                have hul : s.uss.length ≤ 1000 := by omega
                obtain ⟨s2, hs2⟩ : ∃ s2 : Cs, s2 = { s with kn := s.kn ++ [(s.o, ((s.k + 1 : Nat) : Int), s.uss.getD s.k [])], k := s.k + 1 } := ⟨_, rfl⟩
                rw [← hs2] at HTK HEQ2 HSN2 HO2
                have u1 : s.uss.length - (s.k + 1) = s2.uss.length - s2.k := by rw [hs2]
                have u2 : (s.kn ++ [((s.o, ((s.k + 1 : Nat) : Int), s.uss.getD s.k []) : Cr)]) = s2.kn := by rw [hs2]
                have u3 : s.uss.length = s2.uss.length := by rw [hs2]
                rw [u1] at e1
                rw [u2] at e2 hkl hkl2
                rw [u3] at hul hkl2
                clear hto htk hsn hs2 u1 u2 u3 d0 d1 d2
                have KA11 := Lib.hid (KA10.out.next (Below.refl _ _).drew)
                have HXP11 := Lib.hid (HXP10.out.next (Below.refl _ _).drew)
                have HV11 := Lib.hid (HV10.out.next (Below.refl _ _).drew)
                have HRU11 := Lib.hid (HRU.out.below (Below.refl _ _).drew)
                have HP011 := Lib.hid (HROW.out _ HXP11.out.rz)
                refine wp_region_held_drew (S := fun w' => (w'.cell? ⟨g, 0, none⟩ = some (.pointer (some ⟨cb, 0, none⟩)) ∧ w'.cell? ⟨g, 1, none⟩ = some (.pointer (some ⟨db, 0, none⟩))) ∧ (w'.cell? ⟨gp, 0, none⟩ = some (.int .i64 ro) ∧ w'.cell? ⟨gp, 1, none⟩ = some (.int .i64 rn) ∧ w'.cell? ⟨gp, 2, none⟩ = some (.slice ra rl rc)) ∧ w'.cell? ⟨gv, 0, none⟩ = some (.int .i64 v1) ∧ w'.cell? ⟨gv, 1, none⟩ = some (.int .i64 v2) ∧ w'.cell? ⟨gv, 2, none⟩ = some (.string v3)) (by kernel_rfl) ?_ (fun hH => ?_)
                · exact ⟨⟨KA11.out.kb.c0, KA11.out.kb.c1⟩, HP011.out, (Y.Vb.c HV11.out.vb)⟩
                generalize wc.drew = w11 at *
                refine tkH 0 ?_ ?_ ?_
                rotate_left
                · intro w h; try dsimp only at h
                  obtain ⟨⟨q0, q1⟩, ⟨d0, d1, d2⟩, v0, v1', v2'⟩ := h; go_simp; all_goals with_reducible rfl
                try simp only [pt]
                refine tkH 1 ?_ ?_ ?_
                rotate_left
                · intro w h; try dsimp only at h
                  obtain ⟨⟨q0, q1⟩, ⟨d0, d1, d2⟩, v0, v1', v2'⟩ := h; go_simp; all_goals with_reducible rfl
                try simp only [pt]
                refine tkH 2 ?_ ?_ ?_
                rotate_left
                · intro w h; try dsimp only at h
                  obtain ⟨⟨q0, q1⟩, ⟨d0, d1, d2⟩, v0, v1', v2'⟩ := h; go_simp; all_goals with_reducible rfl
                try simp only [pt]
                refine tkH 3 ?_ ?_ ?_
                rotate_left
                · intro w h; try dsimp only at h
                  obtain ⟨⟨q0, q1⟩, ⟨d0, d1, d2⟩, v0, v1', v2'⟩ := h; go_simp; all_goals with_reducible rfl
                try simp only [pt]
                refine tkH 4 ?_ ?_ ?_
                rotate_left
                · intro w h; try dsimp only at h
                  obtain ⟨⟨q0, q1⟩, ⟨d0, d1, d2⟩, v0, v1', v2'⟩ := h; go_simp; all_goals with_reducible rfl
                try simp only [pt]
                refine wpAnyH_ready (rs := [5]) (by kernel_rfl) (by simp) ?_
                refine rdH (fun K hK => ?_) ?_
                · go_simp
                  refine (ctake_any (s := s) (by omega) ⟨ro, rn, ra, rl, rc, rus⟩ HSM.out w11 HRU11.out KA11.out.pk).mono ?_
                  rintro e w12 ⟨rfl, P12, hp⟩
                  rw [KR.out, HTO.out]
                  rw [KR.out, HTK.out] at hp
                  have KA12 := Lib.hid (KA11.out.step hp)
                  have HXP12 := Lib.hid (HXP11.out.step hp)
                  have HV12 := Lib.hid (HV11.out.step hp)
                  have HP012 : Hid ((w12.cell? ⟨gp, 0, none⟩ = some (.int .i64 ro) ∧ w12.cell? ⟨gp, 1, none⟩ = some (.int .i64 rn) ∧ w12.cell? ⟨gp, 2, none⟩ = some (.slice ra rl rc))) := Lib.hid (HROW.out _ HXP12.out.rz)
                  have hs12 : (w12.cell? ⟨g, 0, none⟩ = some (.pointer (some ⟨cb, 0, none⟩)) ∧ w12.cell? ⟨g, 1, none⟩ = some (.pointer (some ⟨db, 0, none⟩))) ∧ (w12.cell? ⟨gp, 0, none⟩ = some (.int .i64 ro) ∧ w12.cell? ⟨gp, 1, none⟩ = some (.int .i64 rn) ∧ w12.cell? ⟨gp, 2, none⟩ = some (.slice ra rl rc)) ∧ w12.cell? ⟨gv, 0, none⟩ = some (.int .i64 v1) ∧ w12.cell? ⟨gv, 1, none⟩ = some (.int .i64 v2) ∧ w12.cell? ⟨gv, 2, none⟩ = some (.string v3) := ⟨⟨KA12.out.kb.c0, KA12.out.kb.c1⟩, HP012.out, (Y.Vb.c HV12.out.vb)⟩
                  clear hp
                  go_wp2_with fail
                  refine hK.out _ _ ?_ (fun hH => ?_)
                  · exact hs12
                  clear hK K
                  try simp only [pt]
                  refine tkH 6 ?_ ?_ ?_
                  rotate_left
                  · intro w h; try dsimp only at h
                    obtain ⟨⟨q0, q1⟩, ⟨d0, d1, d2⟩, v0, v1', v2'⟩ := h; go_simp; all_goals with_reducible rfl
                  try simp only [pt]
                  refine tkH 7 ?_ ?_ ?_
                  rotate_left
                  · intro w h; try dsimp only at h
                    obtain ⟨⟨q0, q1⟩, ⟨d0, d1, d2⟩, v0, v1', v2'⟩ := h; go_simp; all_goals with_reducible rfl
                  try simp only [pt]
                  refine tkH 8 ?_ ?_ ?_
                  rotate_left
                  · intro w h; try dsimp only at h
                    obtain ⟨⟨q0, q1⟩, ⟨d0, d1, d2⟩, v0, v1', v2'⟩ := h; go_simp; all_goals with_reducible rfl
                  try simp only [pt]
                  refine tkH 9 ?_ ?_ ?_
                  rotate_left
                  · intro w h; try dsimp only at h
                    obtain ⟨⟨q0, q1⟩, ⟨d0, d1, d2⟩, v0, v1', v2'⟩ := h; go_simp; all_goals with_reducible rfl
                  try simp only [pt]
                  refine tkH 12 ?_ ?_ ?_
                  rotate_left
                  · intro w h; try dsimp only at h
                    obtain ⟨⟨q0, q1⟩, ⟨d0, d1, d2⟩, v0, v1', v2'⟩ := h; go_simp; all_goals with_reducible rfl
                  try simp only [pt]
                  refine tkH 13 ?_ ?_ ?_
                  rotate_left
                  · intro w h; try dsimp only at h
                    obtain ⟨⟨q0, q1⟩, ⟨d0, d1, d2⟩, v0, v1', v2'⟩ := h; go_simp; all_goals with_reducible rfl
                  try simp only [pt]
                  refine tkH 14 ?_ ?_ ?_
                  rotate_left
                  · intro w h; try dsimp only at h
                    obtain ⟨⟨q0, q1⟩, ⟨d0, d1, d2⟩, v0, v1', v2'⟩ := h; go_simp; all_goals with_reducible rfl
                  try simp only [pt]
                  refine wpAnyH_ready (rs := [10]) (by kernel_rfl) (by simp) ?_
                  refine rdH (fun K hK => ?_) ?_
                  · go_simp
                    refine (cpend_any (s := s2) HO2.out.k hul w12 KA12.out.pk).mono ?_
                    rintro e w13 ⟨g13, x13, rfl, -, -, -, -, hb⟩
                    have KA13 := Lib.hid (KA12.out.next hb)
                    have HXP13 := Lib.hid (HXP12.out.next hb)
                    have HV13 := Lib.hid (HV12.out.next hb)
                    have HP013 : Hid ((w13.cell? ⟨gp, 0, none⟩ = some (.int .i64 ro) ∧ w13.cell? ⟨gp, 1, none⟩ = some (.int .i64 rn) ∧ w13.cell? ⟨gp, 2, none⟩ = some (.slice ra rl rc))) := Lib.hid (HROW.out _ HXP13.out.rz)
                    have hs13 : (w13.cell? ⟨g, 0, none⟩ = some (.pointer (some ⟨cb, 0, none⟩)) ∧ w13.cell? ⟨g, 1, none⟩ = some (.pointer (some ⟨db, 0, none⟩))) ∧ (w13.cell? ⟨gp, 0, none⟩ = some (.int .i64 ro) ∧ w13.cell? ⟨gp, 1, none⟩ = some (.int .i64 rn) ∧ w13.cell? ⟨gp, 2, none⟩ = some (.slice ra rl rc)) ∧ w13.cell? ⟨gv, 0, none⟩ = some (.int .i64 v1) ∧ w13.cell? ⟨gv, 1, none⟩ = some (.int .i64 v2) ∧ w13.cell? ⟨gv, 2, none⟩ = some (.string v3) := ⟨⟨KA13.out.kb.c0, KA13.out.kb.c1⟩, HP013.out, (Y.Vb.c HV13.out.vb)⟩
                    clear hb
                    go_wp2_with fail
                    refine hK.out _ _ ?_ (fun hH => ?_)
                    · exact hs13
                    clear hK K
                    try simp only [pt]
                    refine tkH 11 ?_ ?_ ?_
                    rotate_left
                    · intro w h; try dsimp only at h
                      obtain ⟨⟨q0, q1⟩, ⟨d0, d1, d2⟩, v0, v1', v2'⟩ := h; go_simp; all_goals with_reducible rfl
                    try simp only [pt]
                    refine tkH 15 ?_ ?_ ?_
                    rotate_left
                    · intro w h; try dsimp only at h
                      obtain ⟨⟨q0, q1⟩, ⟨d0, d1, d2⟩, v0, v1', v2'⟩ := h; go_simp; all_goals with_reducible rfl
                    try simp only [pt]
                    refine tkH 16 ?_ ?_ ?_
                    rotate_left
                    · intro w h; try dsimp only at h
                      obtain ⟨⟨q0, q1⟩, ⟨d0, d1, d2⟩, v0, v1', v2'⟩ := h; go_simp; all_goals with_reducible rfl
                    try simp only [pt]
                    refine tkH 17 ?_ ?_ ?_
                    rotate_left
                    · intro w h; try dsimp only at h
                      obtain ⟨⟨q0, q1⟩, ⟨d0, d1, d2⟩, v0, v1', v2'⟩ := h; go_simp; all_goals with_reducible rfl
                    try simp only [pt]
                    refine tkH 18 ?_ ?_ ?_
                    rotate_left
                    · intro w h; try dsimp only at h
                      obtain ⟨⟨q0, q1⟩, ⟨d0, d1, d2⟩, v0, v1', v2'⟩ := h; go_simp; all_goals with_reducible rfl
                    try simp only [pt]
                    refine tkH 19 ?_ ?_ ?_
                    rotate_left
                    · intro w h; try dsimp only at h
                      obtain ⟨⟨q0, q1⟩, ⟨d0, d1, d2⟩, v0, v1', v2'⟩ := h; go_simp; all_goals with_reducible rfl
                    try simp only [pt]
                    refine tkH 22 ?_ ?_ ?_
                    rotate_left
                    · intro w h; try dsimp only at h
                      obtain ⟨⟨q0, q1⟩, ⟨d0, d1, d2⟩, v0, v1', v2'⟩ := h; go_simp; all_goals with_reducible rfl
                    try simp only [pt]
                    refine tkH 23 ?_ ?_ ?_
                    rotate_left
                    · intro w h; try dsimp only at h
                      obtain ⟨⟨q0, q1⟩, ⟨d0, d1, d2⟩, v0, v1', v2'⟩ := h; go_simp; all_goals with_reducible rfl
                    try simp only [pt]
                    refine wpAnyH_ready (rs := [20]) (by kernel_rfl) (by simp) ?_
                    refine rdH (fun K hK => ?_) ?_
                    · go_simp
                      refine (cknown_any (s := s2) hkl (fun r hr => (HO2.out.sk r hr).sm) w13 KA13.out.pk).mono ?_
                      rintro e w14 ⟨g14, x14, rfl, -, -, -, -, hb⟩
                      have KA14 := Lib.hid (KA13.out.next hb)
                      have HXP14 := Lib.hid (HXP13.out.next hb)
                      have HV14 := Lib.hid (HV13.out.next hb)
                      have HP014 : Hid ((w14.cell? ⟨gp, 0, none⟩ = some (.int .i64 ro) ∧ w14.cell? ⟨gp, 1, none⟩ = some (.int .i64 rn) ∧ w14.cell? ⟨gp, 2, none⟩ = some (.slice ra rl rc))) := Lib.hid (HROW.out _ HXP14.out.rz)
                      have hs14 : (w14.cell? ⟨g, 0, none⟩ = some (.pointer (some ⟨cb, 0, none⟩)) ∧ w14.cell? ⟨g, 1, none⟩ = some (.pointer (some ⟨db, 0, none⟩))) ∧ (w14.cell? ⟨gp, 0, none⟩ = some (.int .i64 ro) ∧ w14.cell? ⟨gp, 1, none⟩ = some (.int .i64 rn) ∧ w14.cell? ⟨gp, 2, none⟩ = some (.slice ra rl rc)) ∧ w14.cell? ⟨gv, 0, none⟩ = some (.int .i64 v1) ∧ w14.cell? ⟨gv, 1, none⟩ = some (.int .i64 v2) ∧ w14.cell? ⟨gv, 2, none⟩ = some (.string v3) := ⟨⟨KA14.out.kb.c0, KA14.out.kb.c1⟩, HP014.out, (Y.Vb.c HV14.out.vb)⟩
                      clear hb
                      go_wp2_with fail
                      refine hK.out _ _ ?_ (fun hH => ?_)
                      · exact hs14
                      clear hK K
                      try simp only [pt]
                      refine tkH 21 ?_ ?_ ?_
                      rotate_left
                      · intro w h; try dsimp only at h
                        obtain ⟨⟨q0, q1⟩, ⟨d0, d1, d2⟩, v0, v1', v2'⟩ := h; go_simp; all_goals with_reducible rfl
                      try simp only [pt]
                      refine tkH 24 ?_ ?_ ?_
                      rotate_left
                      · intro w h; try dsimp only at h
                        obtain ⟨⟨q0, q1⟩, ⟨d0, d1, d2⟩, v0, v1', v2'⟩ := h; go_simp; all_goals with_reducible rfl
                      try simp only [pt]
                      refine tkH 25 ?_ ?_ ?_
                      rotate_left
                      · intro w h; try dsimp only at h
                        obtain ⟨⟨q0, q1⟩, ⟨d0, d1, d2⟩, v0, v1', v2'⟩ := h; go_simp; all_goals with_reducible rfl
                      try simp only [pt]
                      refine tkH 26 ?_ ?_ ?_
                      rotate_left
                      · intro w h; try dsimp only at h
                        obtain ⟨⟨q0, q1⟩, ⟨d0, d1, d2⟩, v0, v1', v2'⟩ := h; go_simp; all_goals with_reducible rfl
                      try simp only [pt]
                      refine tkH 27 ?_ ?_ ?_
                      rotate_left
                      · intro w h; try dsimp only at h
                        obtain ⟨⟨q0, q1⟩, ⟨d0, d1, d2⟩, v0, v1', v2'⟩ := h; go_simp; all_goals with_reducible rfl
                      try simp only [pt]
                      refine tkH 28 ?_ ?_ ?_
                      rotate_left
                      · intro w h; try dsimp only at h
                        obtain ⟨⟨q0, q1⟩, ⟨d0, d1, d2⟩, v0, v1', v2'⟩ := h; go_simp; all_goals with_reducible rfl
                      try simp only [pt]
                      refine tkH 29 ?_ ?_ ?_
                      rotate_left
                      · intro w h; try dsimp only at h
                        obtain ⟨⟨q0, q1⟩, ⟨d0, d1, d2⟩, v0, v1', v2'⟩ := h; go_simp; all_goals with_reducible rfl
                      try simp only [pt]
                      refine tkH 31 ?_ ?_ ?_
                      rotate_left
                      · intro w h; try dsimp only at h
                        obtain ⟨⟨q0, q1⟩, ⟨d0, d1, d2⟩, v0, v1', v2'⟩ := h; go_simp; all_goals with_reducible rfl
                      try simp only [pt]
                      refine wpAnyH_ready (rs := [30]) (by kernel_rfl) (by simp) ?_
                      refine rdH (fun K hK => ?_) ?_
                      · go_simp
                        refine (cread_any (s := s2) key HO2.out.k (by omega) HSN2.out w14 KA14.out.pk).mono ?_
                        rintro e w15 ⟨rfl, hb⟩
                        rw [HEQ2.out]
                        simp only [Y.vv_eq]
                        have KA15 := Lib.hid (KA14.out.next hb)
                        have HXP15 := Lib.hid (HXP14.out.next hb)
                        have HV15 := Lib.hid (HV14.out.next hb)
                        have HP015 : Hid ((w15.cell? ⟨gp, 0, none⟩ = some (.int .i64 ro) ∧ w15.cell? ⟨gp, 1, none⟩ = some (.int .i64 rn) ∧ w15.cell? ⟨gp, 2, none⟩ = some (.slice ra rl rc))) := Lib.hid (HROW.out _ HXP15.out.rz)
                        have hs15 : (w15.cell? ⟨g, 0, none⟩ = some (.pointer (some ⟨cb, 0, none⟩)) ∧ w15.cell? ⟨g, 1, none⟩ = some (.pointer (some ⟨db, 0, none⟩))) ∧ (w15.cell? ⟨gp, 0, none⟩ = some (.int .i64 ro) ∧ w15.cell? ⟨gp, 1, none⟩ = some (.int .i64 rn) ∧ w15.cell? ⟨gp, 2, none⟩ = some (.slice ra rl rc)) ∧ w15.cell? ⟨gv, 0, none⟩ = some (.int .i64 v1) ∧ w15.cell? ⟨gv, 1, none⟩ = some (.int .i64 v2) ∧ w15.cell? ⟨gv, 2, none⟩ = some (.string v3) := ⟨⟨KA15.out.kb.c0, KA15.out.kb.c1⟩, HP015.out, (Y.Vb.c HV15.out.vb)⟩
                        clear hb
                        go_wp2_with fail
                        refine hK.out _ _ ?_ (fun hH => ?_)
                        · exact hs15
                        clear hK K
                        try simp only [pt]
                        refine tkH 32 ?_ ?_ ?_
                        rotate_left
                        · intro w h; try dsimp only at h
                          obtain ⟨⟨q0, q1⟩, ⟨d0, d1, d2⟩, v0, v1', v2'⟩ := h; go_simp; all_goals with_reducible rfl
                        try simp only [pt]
                        refine tkH 33 ?_ ?_ ?_
                        rotate_left
                        · intro w h; try dsimp only at h
                          obtain ⟨⟨q0, q1⟩, ⟨d0, d1, d2⟩, v0, v1', v2'⟩ := h; go_simp; all_goals with_reducible rfl
                        try simp only [pt]
                        refine tkH 34 ?_ ?_ ?_
                        rotate_left
                        · intro w h; try dsimp only at h
                          obtain ⟨⟨q0, q1⟩, ⟨d0, d1, d2⟩, v0, v1', v2'⟩ := h; go_simp; all_goals with_reducible rfl
                        try simp only [pt]
                        refine wpAnyH_done (by kernel_rfl) ?_ _
                        go_wp2
                        go_ret
                        exact ⟨rfl, Below.next HB0.out KA15.out.bel⟩
                      exact AllReadyH.nil
                    exact AllReadyH.nil
                  exact AllReadyH.nil
                exact AllReadyH.nil
              · have e9 : (y1 == rn) = false := beq_false_of_ne hne'
                have hne : ¬ (s.k < s.uss.length ∧ y1 = ((s.k + 1 : Nat) : Int)) := fun e => hne' (e.2.trans HN1.out.symm)
                go_upto_region 14 with fail
                clear d0 d1 d2
                have helse := take_else (n := y1) hne
                have HEL := Lib.hid helse
                have HO2 := HO
                have HSN2 := HSN
                have HEQ2 := HEQ
                have hul : s.uss.length ≤ 1000 := by omega
                have hkl : s.kn.length ≤ 1000 := by omega
                have ho : s.o = x0 := HWF.out.o
                have HOX := Lib.hid ho
                clear helse ho
                have KA11 := Lib.hid (KA10.out.next (Below.refl _ _).drew)
                have HV11 := Lib.hid (HV10.out.next (Below.refl _ _).drew)
                refine wp_region_held_drew (S := fun w' => (w'.cell? ⟨g, 0, none⟩ = some (.pointer (some ⟨cb, 0, none⟩)) ∧ w'.cell? ⟨g, 1, none⟩ = some (.pointer (some ⟨db, 0, none⟩))) ∧ w'.cell? ⟨xb, 0, none⟩ = some (.int .i64 x0) ∧ w'.cell? ⟨gv, 0, none⟩ = some (.int .i64 v1) ∧ w'.cell? ⟨gv, 1, none⟩ = some (.int .i64 v2) ∧ w'.cell? ⟨gv, 2, none⟩ = some (.string v3)) (by kernel_rfl) ?_ (fun hH => ?_)
                · exact ⟨⟨KA11.out.kb.c0, KA11.out.kb.c1⟩, cell_at ((KA11.out.bel.block xb (Array.getElem?_eq_some_iff.1 HX.out).1).trans HX.out) 0 _ rfl, (Y.Vb.c HV11.out.vb)⟩
                generalize wc.drew = w11 at *
                refine tkH 0 ?_ ?_ ?_
                rotate_left
                · intro w h; try dsimp only at h
                  obtain ⟨⟨q0, q1⟩, d0, v0, v1', v2'⟩ := h; go_simp; all_goals with_reducible rfl
                try simp only [pt]
                refine tkH 1 ?_ ?_ ?_
                rotate_left
                · intro w h; try dsimp only at h
                  obtain ⟨⟨q0, q1⟩, d0, v0, v1', v2'⟩ := h; go_simp; all_goals with_reducible rfl
                try simp only [pt]
                refine tkH 2 ?_ ?_ ?_
                rotate_left
                · intro w h; try dsimp only at h
                  obtain ⟨⟨q0, q1⟩, d0, v0, v1', v2'⟩ := h; go_simp; all_goals with_reducible rfl
                try simp only [pt]
                refine tkH 3 ?_ ?_ ?_
                rotate_left
                · intro w h; try dsimp only at h
                  obtain ⟨⟨q0, q1⟩, d0, v0, v1', v2'⟩ := h; go_simp; all_goals with_reducible rfl
                try simp only [pt]
                refine tkH 4 ?_ ?_ ?_
                rotate_left
                · intro w h; try dsimp only at h
                  obtain ⟨⟨q0, q1⟩, d0, v0, v1', v2'⟩ := h; go_simp; all_goals with_reducible rfl
                try simp only [pt]
                refine tkH 5 ?_ ?_ ?_
                rotate_left
                · intro w h; try dsimp only at h
                  obtain ⟨⟨q0, q1⟩, d0, v0, v1', v2'⟩ := h; go_simp; all_goals with_reducible rfl
                try simp only [pt]
                refine wpAnyH_ready (rs := [6]) (by kernel_rfl) (by simp) ?_
                refine rdH (fun K hK => ?_) ?_
                · go_simp
                  refine (ctake_any (s := s) (by omega) ⟨x0, y1, none, 0, 0, []⟩ Sl.nil.sm w11 ⟨isUs_nil _, Nat.le_refl _, fun _ => rfl⟩ KA11.out.pk).mono ?_
                  rintro e w12 ⟨rfl, P12, hp⟩
                  rw [show kR ⟨x0, y1, none, 0, 0, []⟩ = (s.o, y1, []) by rw [HOX.out]; rfl] at hp ⊢
                  rw [HEL.out.1]
                  rw [HEL.out.2] at hp
                  have KA12 := Lib.hid (KA11.out.step hp)
                  have HV12 := Lib.hid (HV11.out.step hp)
                  have hs12 : (w12.cell? ⟨g, 0, none⟩ = some (.pointer (some ⟨cb, 0, none⟩)) ∧ w12.cell? ⟨g, 1, none⟩ = some (.pointer (some ⟨db, 0, none⟩))) ∧ w12.cell? ⟨xb, 0, none⟩ = some (.int .i64 x0) ∧ w12.cell? ⟨gv, 0, none⟩ = some (.int .i64 v1) ∧ w12.cell? ⟨gv, 1, none⟩ = some (.int .i64 v2) ∧ w12.cell? ⟨gv, 2, none⟩ = some (.string v3) := ⟨⟨KA12.out.kb.c0, KA12.out.kb.c1⟩, cell_at ((KA12.out.bel.block xb (Array.getElem?_eq_some_iff.1 HX.out).1).trans HX.out) 0 _ rfl, (Y.Vb.c HV12.out.vb)⟩
                  clear hp
                  go_wp2_with fail
                  refine hK.out _ _ ?_ (fun hH => ?_)
                  · exact hs12
                  clear hK K
                  try simp only [pt]
                  refine tkH 7 ?_ ?_ ?_
                  rotate_left
                  · intro w h; try dsimp only at h
                    obtain ⟨⟨q0, q1⟩, d0, v0, v1', v2'⟩ := h; go_simp; all_goals with_reducible rfl
                  try simp only [pt]
                  refine tkH 8 ?_ ?_ ?_
                  rotate_left
                  · intro w h; try dsimp only at h
                    obtain ⟨⟨q0, q1⟩, d0, v0, v1', v2'⟩ := h; go_simp; all_goals with_reducible rfl
                  try simp only [pt]
                  refine tkH 9 ?_ ?_ ?_
                  rotate_left
                  · intro w h; try dsimp only at h
                    obtain ⟨⟨q0, q1⟩, d0, v0, v1', v2'⟩ := h; go_simp; all_goals with_reducible rfl
                  try simp only [pt]
                  refine tkH 10 ?_ ?_ ?_
                  rotate_left
                  · intro w h; try dsimp only at h
                    obtain ⟨⟨q0, q1⟩, d0, v0, v1', v2'⟩ := h; go_simp; all_goals with_reducible rfl
                  try simp only [pt]
                  refine tkH 13 ?_ ?_ ?_
                  rotate_left
                  · intro w h; try dsimp only at h
                    obtain ⟨⟨q0, q1⟩, d0, v0, v1', v2'⟩ := h; go_simp; all_goals with_reducible rfl
                  try simp only [pt]
                  refine tkH 14 ?_ ?_ ?_
                  rotate_left
                  · intro w h; try dsimp only at h
                    obtain ⟨⟨q0, q1⟩, d0, v0, v1', v2'⟩ := h; go_simp; all_goals with_reducible rfl
                  try simp only [pt]
                  refine wpAnyH_ready (rs := [11]) (by kernel_rfl) (by simp) ?_
                  refine rdH (fun K hK => ?_) ?_
                  · go_simp
                    refine (cpend_any (s := s) HO2.out.k hul w12 KA12.out.pk).mono ?_
                    rintro e w13 ⟨g13, x13, rfl, -, -, -, -, hb⟩
                    have KA13 := Lib.hid (KA12.out.next hb)
                    have HV13 := Lib.hid (HV12.out.next hb)
                    have hs13 : (w13.cell? ⟨g, 0, none⟩ = some (.pointer (some ⟨cb, 0, none⟩)) ∧ w13.cell? ⟨g, 1, none⟩ = some (.pointer (some ⟨db, 0, none⟩))) ∧ w13.cell? ⟨xb, 0, none⟩ = some (.int .i64 x0) ∧ w13.cell? ⟨gv, 0, none⟩ = some (.int .i64 v1) ∧ w13.cell? ⟨gv, 1, none⟩ = some (.int .i64 v2) ∧ w13.cell? ⟨gv, 2, none⟩ = some (.string v3) := ⟨⟨KA13.out.kb.c0, KA13.out.kb.c1⟩, cell_at ((KA13.out.bel.block xb (Array.getElem?_eq_some_iff.1 HX.out).1).trans HX.out) 0 _ rfl, (Y.Vb.c HV13.out.vb)⟩
                    clear hb
                    go_wp2_with fail
                    refine hK.out _ _ ?_ (fun hH => ?_)
                    · exact hs13
                    clear hK K
                    try simp only [pt]
                    refine tkH 12 ?_ ?_ ?_
                    rotate_left
                    · intro w h; try dsimp only at h
                      obtain ⟨⟨q0, q1⟩, d0, v0, v1', v2'⟩ := h; go_simp; all_goals with_reducible rfl
                    try simp only [pt]
                    refine tkH 15 ?_ ?_ ?_
                    rotate_left
                    · intro w h; try dsimp only at h
                      obtain ⟨⟨q0, q1⟩, d0, v0, v1', v2'⟩ := h; go_simp; all_goals with_reducible rfl
                    try simp only [pt]
                    refine tkH 16 ?_ ?_ ?_
                    rotate_left
                    · intro w h; try dsimp only at h
                      obtain ⟨⟨q0, q1⟩, d0, v0, v1', v2'⟩ := h; go_simp; all_goals with_reducible rfl
                    try simp only [pt]
                    refine tkH 17 ?_ ?_ ?_
                    rotate_left
                    · intro w h; try dsimp only at h
                      obtain ⟨⟨q0, q1⟩, d0, v0, v1', v2'⟩ := h; go_simp; all_goals with_reducible rfl
                    try simp only [pt]
                    refine tkH 18 ?_ ?_ ?_
                    rotate_left
                    · intro w h; try dsimp only at h
                      obtain ⟨⟨q0, q1⟩, d0, v0, v1', v2'⟩ := h; go_simp; all_goals with_reducible rfl
                    try simp only [pt]
                    refine tkH 19 ?_ ?_ ?_
                    rotate_left
                    · intro w h; try dsimp only at h
                      obtain ⟨⟨q0, q1⟩, d0, v0, v1', v2'⟩ := h; go_simp; all_goals with_reducible rfl
                    try simp only [pt]
                    refine tkH 22 ?_ ?_ ?_
                    rotate_left
                    · intro w h; try dsimp only at h
                      obtain ⟨⟨q0, q1⟩, d0, v0, v1', v2'⟩ := h; go_simp; all_goals with_reducible rfl
                    try simp only [pt]
                    refine wpAnyH_ready (rs := [20]) (by kernel_rfl) (by simp) ?_
                    refine rdH (fun K hK => ?_) ?_
                    · go_simp
                      refine (cknown_any (s := s) hkl (fun r hr => (HO2.out.sk r hr).sm) w13 KA13.out.pk).mono ?_
                      rintro e w14 ⟨g14, x14, rfl, -, -, -, -, hb⟩
                      have KA14 := Lib.hid (KA13.out.next hb)
                      have HV14 := Lib.hid (HV13.out.next hb)
                      have hs14 : (w14.cell? ⟨g, 0, none⟩ = some (.pointer (some ⟨cb, 0, none⟩)) ∧ w14.cell? ⟨g, 1, none⟩ = some (.pointer (some ⟨db, 0, none⟩))) ∧ w14.cell? ⟨xb, 0, none⟩ = some (.int .i64 x0) ∧ w14.cell? ⟨gv, 0, none⟩ = some (.int .i64 v1) ∧ w14.cell? ⟨gv, 1, none⟩ = some (.int .i64 v2) ∧ w14.cell? ⟨gv, 2, none⟩ = some (.string v3) := ⟨⟨KA14.out.kb.c0, KA14.out.kb.c1⟩, cell_at ((KA14.out.bel.block xb (Array.getElem?_eq_some_iff.1 HX.out).1).trans HX.out) 0 _ rfl, (Y.Vb.c HV14.out.vb)⟩
                      clear hb
                      go_wp2_with fail
                      refine hK.out _ _ ?_ (fun hH => ?_)
                      · exact hs14
                      clear hK K
                      try simp only [pt]
                      refine tkH 21 ?_ ?_ ?_
                      rotate_left
                      · intro w h; try dsimp only at h
                        obtain ⟨⟨q0, q1⟩, d0, v0, v1', v2'⟩ := h; go_simp; all_goals with_reducible rfl
                      try simp only [pt]
                      refine tkH 23 ?_ ?_ ?_
                      rotate_left
                      · intro w h; try dsimp only at h
                        obtain ⟨⟨q0, q1⟩, d0, v0, v1', v2'⟩ := h; go_simp; all_goals with_reducible rfl
                      try simp only [pt]
                      refine tkH 24 ?_ ?_ ?_
                      rotate_left
                      · intro w h; try dsimp only at h
                        obtain ⟨⟨q0, q1⟩, d0, v0, v1', v2'⟩ := h; go_simp; all_goals with_reducible rfl
                      try simp only [pt]
                      refine tkH 25 ?_ ?_ ?_
                      rotate_left
                      · intro w h; try dsimp only at h
                        obtain ⟨⟨q0, q1⟩, d0, v0, v1', v2'⟩ := h; go_simp; all_goals with_reducible rfl
                      try simp only [pt]
                      refine tkH 26 ?_ ?_ ?_
                      rotate_left
                      · intro w h; try dsimp only at h
                        obtain ⟨⟨q0, q1⟩, d0, v0, v1', v2'⟩ := h; go_simp; all_goals with_reducible rfl
                      try simp only [pt]
                      refine tkH 27 ?_ ?_ ?_
                      rotate_left
                      · intro w h; try dsimp only at h
                        obtain ⟨⟨q0, q1⟩, d0, v0, v1', v2'⟩ := h; go_simp; all_goals with_reducible rfl
                      try simp only [pt]
                      refine tkH 28 ?_ ?_ ?_
                      rotate_left
                      · intro w h; try dsimp only at h
                        obtain ⟨⟨q0, q1⟩, d0, v0, v1', v2'⟩ := h; go_simp; all_goals with_reducible rfl
                      try simp only [pt]
                      refine tkH 30 ?_ ?_ ?_
                      rotate_left
                      · intro w h; try dsimp only at h
                        obtain ⟨⟨q0, q1⟩, d0, v0, v1', v2'⟩ := h; go_simp; all_goals with_reducible rfl
                      try simp only [pt]
                      refine wpAnyH_ready (rs := [29]) (by kernel_rfl) (by simp) ?_
                      refine rdH (fun K hK => ?_) ?_
                      · go_simp
                        refine (cread_any (s := s) key HO2.out.k (by omega) HSN2.out w14 KA14.out.pk).mono ?_
                        rintro e w15 ⟨rfl, hb⟩
                        rw [HEQ2.out]
                        simp only [Y.vv_eq]
                        have KA15 := Lib.hid (KA14.out.next hb)
                        have HV15 := Lib.hid (HV14.out.next hb)
                        have hs15 : (w15.cell? ⟨g, 0, none⟩ = some (.pointer (some ⟨cb, 0, none⟩)) ∧ w15.cell? ⟨g, 1, none⟩ = some (.pointer (some ⟨db, 0, none⟩))) ∧ w15.cell? ⟨xb, 0, none⟩ = some (.int .i64 x0) ∧ w15.cell? ⟨gv, 0, none⟩ = some (.int .i64 v1) ∧ w15.cell? ⟨gv, 1, none⟩ = some (.int .i64 v2) ∧ w15.cell? ⟨gv, 2, none⟩ = some (.string v3) := ⟨⟨KA15.out.kb.c0, KA15.out.kb.c1⟩, cell_at ((KA15.out.bel.block xb (Array.getElem?_eq_some_iff.1 HX.out).1).trans HX.out) 0 _ rfl, (Y.Vb.c HV15.out.vb)⟩
                        clear hb
                        go_wp2_with fail
                        refine hK.out _ _ ?_ (fun hH => ?_)
                        · exact hs15
                        clear hK K
                        try simp only [pt]
                        refine tkH 31 ?_ ?_ ?_
                        rotate_left
                        · intro w h; try dsimp only at h
                          obtain ⟨⟨q0, q1⟩, d0, v0, v1', v2'⟩ := h; go_simp; all_goals with_reducible rfl
                        try simp only [pt]
                        refine tkH 32 ?_ ?_ ?_
                        rotate_left
                        · intro w h; try dsimp only at h
                          obtain ⟨⟨q0, q1⟩, d0, v0, v1', v2'⟩ := h; go_simp; all_goals with_reducible rfl
                        try simp only [pt]
                        refine tkH 33 ?_ ?_ ?_
                        rotate_left
                        · intro w h; try dsimp only at h
                          obtain ⟨⟨q0, q1⟩, d0, v0, v1', v2'⟩ := h; go_simp; all_goals with_reducible rfl
                        try simp only [pt]
                        refine wpAnyH_done (by kernel_rfl) ?_ _
                        go_wp2
                        go_ret
                        exact ⟨rfl, Below.next HB0.out KA15.out.bel⟩
                      exact AllReadyH.nil
                    exact AllReadyH.nil
                  exact AllReadyH.nil
                exact AllReadyH.nil
            · have q9 : decide ((0 : Int) < ((s.uss.length - s.k : Nat) : Int)) = false := decide_eq_false (by omega)
              have q8 : ¬ (0 : Int) < ((s.uss.length - s.k : Nat) : Int) := by omega
              have hne : ¬ (s.k < s.uss.length ∧ y1 = ((s.k + 1 : Nat) : Int)) := fun e => hpk e.1
              go_upto_region 14 with fail
              have helse := take_else (n := y1) hne
              have HEL := Lib.hid helse
              have HO2 := HO
              have HSN2 := HSN
              have HEQ2 := HEQ
              have hul : s.uss.length ≤ 1000 := by omega
              have hkl : s.kn.length ≤ 1000 := by omega
              have ho : s.o = x0 := HWF.out.o
              have HOX := Lib.hid ho
              clear helse ho
              have KA11 := Lib.hid (KA10.out.next (Below.refl _ _).drew)
              have HV11 := Lib.hid (HV10.out.next (Below.refl _ _).drew)
              refine wp_region_held_drew (S := fun w' => (w'.cell? ⟨g, 0, none⟩ = some (.pointer (some ⟨cb, 0, none⟩)) ∧ w'.cell? ⟨g, 1, none⟩ = some (.pointer (some ⟨db, 0, none⟩))) ∧ w'.cell? ⟨xb, 0, none⟩ = some (.int .i64 x0) ∧ w'.cell? ⟨gv, 0, none⟩ = some (.int .i64 v1) ∧ w'.cell? ⟨gv, 1, none⟩ = some (.int .i64 v2) ∧ w'.cell? ⟨gv, 2, none⟩ = some (.string v3)) (by kernel_rfl) ?_ (fun hH => ?_)
              · exact ⟨⟨KA11.out.kb.c0, KA11.out.kb.c1⟩, cell_at ((KA11.out.bel.block xb (Array.getElem?_eq_some_iff.1 HX.out).1).trans HX.out) 0 _ rfl, (Y.Vb.c HV11.out.vb)⟩
              generalize wc.drew = w11 at *
              refine tkH 0 ?_ ?_ ?_
              rotate_left
              · intro w h; try dsimp only at h
                obtain ⟨⟨q0, q1⟩, d0, v0, v1', v2'⟩ := h; go_simp; all_goals with_reducible rfl
              try simp only [pt]
              refine tkH 1 ?_ ?_ ?_
              rotate_left
              · intro w h; try dsimp only at h
                obtain ⟨⟨q0, q1⟩, d0, v0, v1', v2'⟩ := h; go_simp; all_goals with_reducible rfl
              try simp only [pt]
              refine tkH 2 ?_ ?_ ?_
              rotate_left
              · intro w h; try dsimp only at h
                obtain ⟨⟨q0, q1⟩, d0, v0, v1', v2'⟩ := h; go_simp; all_goals with_reducible rfl
              try simp only [pt]
              refine tkH 3 ?_ ?_ ?_
              rotate_left
              · intro w h; try dsimp only at h
                obtain ⟨⟨q0, q1⟩, d0, v0, v1', v2'⟩ := h; go_simp; all_goals with_reducible rfl
              try simp only [pt]
              refine tkH 4 ?_ ?_ ?_
              rotate_left
              · intro w h; try dsimp only at h
                obtain ⟨⟨q0, q1⟩, d0, v0, v1', v2'⟩ := h; go_simp; all_goals with_reducible rfl
              try simp only [pt]
              refine tkH 5 ?_ ?_ ?_
              rotate_left
              · intro w h; try dsimp only at h
                obtain ⟨⟨q0, q1⟩, d0, v0, v1', v2'⟩ := h; go_simp; all_goals with_reducible rfl
              try simp only [pt]
              refine wpAnyH_ready (rs := [6]) (by kernel_rfl) (by simp) ?_
              refine rdH (fun K hK => ?_) ?_
              · go_simp
                refine (ctake_any (s := s) (by omega) ⟨x0, y1, none, 0, 0, []⟩ Sl.nil.sm w11 ⟨isUs_nil _, Nat.le_refl _, fun _ => rfl⟩ KA11.out.pk).mono ?_
                rintro e w12 ⟨rfl, P12, hp⟩
                rw [show kR ⟨x0, y1, none, 0, 0, []⟩ = (s.o, y1, []) by rw [HOX.out]; rfl] at hp ⊢
                rw [HEL.out.1]
                rw [HEL.out.2] at hp
                have KA12 := Lib.hid (KA11.out.step hp)
                have HV12 := Lib.hid (HV11.out.step hp)
                have hs12 : (w12.cell? ⟨g, 0, none⟩ = some (.pointer (some ⟨cb, 0, none⟩)) ∧ w12.cell? ⟨g, 1, none⟩ = some (.pointer (some ⟨db, 0, none⟩))) ∧ w12.cell? ⟨xb, 0, none⟩ = some (.int .i64 x0) ∧ w12.cell? ⟨gv, 0, none⟩ = some (.int .i64 v1) ∧ w12.cell? ⟨gv, 1, none⟩ = some (.int .i64 v2) ∧ w12.cell? ⟨gv, 2, none⟩ = some (.string v3) := ⟨⟨KA12.out.kb.c0, KA12.out.kb.c1⟩, cell_at ((KA12.out.bel.block xb (Array.getElem?_eq_some_iff.1 HX.out).1).trans HX.out) 0 _ rfl, (Y.Vb.c HV12.out.vb)⟩
                clear hp
                go_wp2_with fail
                refine hK.out _ _ ?_ (fun hH => ?_)
                · exact hs12
                clear hK K
                try simp only [pt]
                refine tkH 7 ?_ ?_ ?_
                rotate_left
                · intro w h; try dsimp only at h
                  obtain ⟨⟨q0, q1⟩, d0, v0, v1', v2'⟩ := h; go_simp; all_goals with_reducible rfl
                try simp only [pt]
                refine tkH 8 ?_ ?_ ?_
                rotate_left
                · intro w h; try dsimp only at h
                  obtain ⟨⟨q0, q1⟩, d0, v0, v1', v2'⟩ := h; go_simp; all_goals with_reducible rfl
                try simp only [pt]
                refine tkH 9 ?_ ?_ ?_
                rotate_left
                · intro w h; try dsimp only at h
                  obtain ⟨⟨q0, q1⟩, d0, v0, v1', v2'⟩ := h; go_simp; all_goals with_reducible rfl
                try simp only [pt]
                refine tkH 10 ?_ ?_ ?_
                rotate_left
                · intro w h; try dsimp only at h
                  obtain ⟨⟨q0, q1⟩, d0, v0, v1', v2'⟩ := h; go_simp; all_goals with_reducible rfl
                try simp only [pt]
                refine tkH 13 ?_ ?_ ?_
                rotate_left
                · intro w h; try dsimp only at h
                  obtain ⟨⟨q0, q1⟩, d0, v0, v1', v2'⟩ := h; go_simp; all_goals with_reducible rfl
                try simp only [pt]
                refine tkH 14 ?_ ?_ ?_
                rotate_left
                · intro w h; try dsimp only at h
                  obtain ⟨⟨q0, q1⟩, d0, v0, v1', v2'⟩ := h; go_simp; all_goals with_reducible rfl
                try simp only [pt]
                refine wpAnyH_ready (rs := [11]) (by kernel_rfl) (by simp) ?_
                refine rdH (fun K hK => ?_) ?_
                · go_simp
                  refine (cpend_any (s := s) HO2.out.k hul w12 KA12.out.pk).mono ?_
                  rintro e w13 ⟨g13, x13, rfl, -, -, -, -, hb⟩
                  have KA13 := Lib.hid (KA12.out.next hb)
                  have HV13 := Lib.hid (HV12.out.next hb)
                  have hs13 : (w13.cell? ⟨g, 0, none⟩ = some (.pointer (some ⟨cb, 0, none⟩)) ∧ w13.cell? ⟨g, 1, none⟩ = some (.pointer (some ⟨db, 0, none⟩))) ∧ w13.cell? ⟨xb, 0, none⟩ = some (.int .i64 x0) ∧ w13.cell? ⟨gv, 0, none⟩ = some (.int .i64 v1) ∧ w13.cell? ⟨gv, 1, none⟩ = some (.int .i64 v2) ∧ w13.cell? ⟨gv, 2, none⟩ = some (.string v3) := ⟨⟨KA13.out.kb.c0, KA13.out.kb.c1⟩, cell_at ((KA13.out.bel.block xb (Array.getElem?_eq_some_iff.1 HX.out).1).trans HX.out) 0 _ rfl, (Y.Vb.c HV13.out.vb)⟩
                  clear hb
                  go_wp2_with fail
                  refine hK.out _ _ ?_ (fun hH => ?_)
                  · exact hs13
                  clear hK K
                  try simp only [pt]
                  refine tkH 12 ?_ ?_ ?_
                  rotate_left
                  · intro w h; try dsimp only at h
                    obtain ⟨⟨q0, q1⟩, d0, v0, v1', v2'⟩ := h; go_simp; all_goals with_reducible rfl
                  try simp only [pt]
                  refine tkH 15 ?_ ?_ ?_
                  rotate_left
                  · intro w h; try dsimp only at h
                    obtain ⟨⟨q0, q1⟩, d0, v0, v1', v2'⟩ := h; go_simp; all_goals with_reducible rfl
                  try simp only [pt]
                  refine tkH 16 ?_ ?_ ?_
                  rotate_left
                  · intro w h; try dsimp only at h
                    obtain ⟨⟨q0, q1⟩, d0, v0, v1', v2'⟩ := h; go_simp; all_goals with_reducible rfl
                  try simp only [pt]
                  refine tkH 17 ?_ ?_ ?_
                  rotate_left
                  · intro w h; try dsimp only at h
                    obtain ⟨⟨q0, q1⟩, d0, v0, v1', v2'⟩ := h; go_simp; all_goals with_reducible rfl
                  try simp only [pt]
                  refine tkH 18 ?_ ?_ ?_
                  rotate_left
                  · intro w h; try dsimp only at h
                    obtain ⟨⟨q0, q1⟩, d0, v0, v1', v2'⟩ := h; go_simp; all_goals with_reducible rfl
                  try simp only [pt]
                  refine tkH 19 ?_ ?_ ?_
                  rotate_left
                  · intro w h; try dsimp only at h
                    obtain ⟨⟨q0, q1⟩, d0, v0, v1', v2'⟩ := h; go_simp; all_goals with_reducible rfl
                  try simp only [pt]
                  refine tkH 22 ?_ ?_ ?_
                  rotate_left
                  · intro w h; try dsimp only at h
                    obtain ⟨⟨q0, q1⟩, d0, v0, v1', v2'⟩ := h; go_simp; all_goals with_reducible rfl
                  try simp only [pt]
                  refine wpAnyH_ready (rs := [20]) (by kernel_rfl) (by simp) ?_
                  refine rdH (fun K hK => ?_) ?_
                  · go_simp
                    refine (cknown_any (s := s) hkl (fun r hr => (HO2.out.sk r hr).sm) w13 KA13.out.pk).mono ?_
                    rintro e w14 ⟨g14, x14, rfl, -, -, -, -, hb⟩
                    have KA14 := Lib.hid (KA13.out.next hb)
                    have HV14 := Lib.hid (HV13.out.next hb)
                    have hs14 : (w14.cell? ⟨g, 0, none⟩ = some (.pointer (some ⟨cb, 0, none⟩)) ∧ w14.cell? ⟨g, 1, none⟩ = some (.pointer (some ⟨db, 0, none⟩))) ∧ w14.cell? ⟨xb, 0, none⟩ = some (.int .i64 x0) ∧ w14.cell? ⟨gv, 0, none⟩ = some (.int .i64 v1) ∧ w14.cell? ⟨gv, 1, none⟩ = some (.int .i64 v2) ∧ w14.cell? ⟨gv, 2, none⟩ = some (.string v3) := ⟨⟨KA14.out.kb.c0, KA14.out.kb.c1⟩, cell_at ((KA14.out.bel.block xb (Array.getElem?_eq_some_iff.1 HX.out).1).trans HX.out) 0 _ rfl, (Y.Vb.c HV14.out.vb)⟩
                    clear hb
                    go_wp2_with fail
                    refine hK.out _ _ ?_ (fun hH => ?_)
                    · exact hs14
                    clear hK K
                    try simp only [pt]
                    refine tkH 21 ?_ ?_ ?_
                    rotate_left
                    · intro w h; try dsimp only at h
                      obtain ⟨⟨q0, q1⟩, d0, v0, v1', v2'⟩ := h; go_simp; all_goals with_reducible rfl
                    try simp only [pt]
                    refine tkH 23 ?_ ?_ ?_
                    rotate_left
                    · intro w h; try dsimp only at h
                      obtain ⟨⟨q0, q1⟩, d0, v0, v1', v2'⟩ := h; go_simp; all_goals with_reducible rfl
                    try simp only [pt]
                    refine tkH 24 ?_ ?_ ?_
                    rotate_left
                    · intro w h; try dsimp only at h
                      obtain ⟨⟨q0, q1⟩, d0, v0, v1', v2'⟩ := h; go_simp; all_goals with_reducible rfl
                    try simp only [pt]
                    refine tkH 25 ?_ ?_ ?_
                    rotate_left
                    · intro w h; try dsimp only at h
                      obtain ⟨⟨q0, q1⟩, d0, v0, v1', v2'⟩ := h; go_simp; all_goals with_reducible rfl
                    try simp only [pt]
                    refine tkH 26 ?_ ?_ ?_
                    rotate_left
                    · intro w h; try dsimp only at h
                      obtain ⟨⟨q0, q1⟩, d0, v0, v1', v2'⟩ := h; go_simp; all_goals with_reducible rfl
                    try simp only [pt]
                    refine tkH 27 ?_ ?_ ?_
                    rotate_left
                    · intro w h; try dsimp only at h
                      obtain ⟨⟨q0, q1⟩, d0, v0, v1', v2'⟩ := h; go_simp; all_goals with_reducible rfl
                    try simp only [pt]
                    refine tkH 28 ?_ ?_ ?_
                    rotate_left
                    · intro w h; try dsimp only at h
                      obtain ⟨⟨q0, q1⟩, d0, v0, v1', v2'⟩ := h; go_simp; all_goals with_reducible rfl
                    try simp only [pt]
                    refine tkH 30 ?_ ?_ ?_
                    rotate_left
                    · intro w h; try dsimp only at h
                      obtain ⟨⟨q0, q1⟩, d0, v0, v1', v2'⟩ := h; go_simp; all_goals with_reducible rfl
                    try simp only [pt]
                    refine wpAnyH_ready (rs := [29]) (by kernel_rfl) (by simp) ?_
                    refine rdH (fun K hK => ?_) ?_
                    · go_simp
                      refine (cread_any (s := s) key HO2.out.k (by omega) HSN2.out w14 KA14.out.pk).mono ?_
                      rintro e w15 ⟨rfl, hb⟩
                      rw [HEQ2.out]
                      simp only [Y.vv_eq]
                      have KA15 := Lib.hid (KA14.out.next hb)
                      have HV15 := Lib.hid (HV14.out.next hb)
                      have hs15 : (w15.cell? ⟨g, 0, none⟩ = some (.pointer (some ⟨cb, 0, none⟩)) ∧ w15.cell? ⟨g, 1, none⟩ = some (.pointer (some ⟨db, 0, none⟩))) ∧ w15.cell? ⟨xb, 0, none⟩ = some (.int .i64 x0) ∧ w15.cell? ⟨gv, 0, none⟩ = some (.int .i64 v1) ∧ w15.cell? ⟨gv, 1, none⟩ = some (.int .i64 v2) ∧ w15.cell? ⟨gv, 2, none⟩ = some (.string v3) := ⟨⟨KA15.out.kb.c0, KA15.out.kb.c1⟩, cell_at ((KA15.out.bel.block xb (Array.getElem?_eq_some_iff.1 HX.out).1).trans HX.out) 0 _ rfl, (Y.Vb.c HV15.out.vb)⟩
                      clear hb
                      go_wp2_with fail
                      refine hK.out _ _ ?_ (fun hH => ?_)
                      · exact hs15
                      clear hK K
                      try simp only [pt]
                      refine tkH 31 ?_ ?_ ?_
                      rotate_left
                      · intro w h; try dsimp only at h
                        obtain ⟨⟨q0, q1⟩, d0, v0, v1', v2'⟩ := h; go_simp; all_goals with_reducible rfl
                      try simp only [pt]
                      refine tkH 32 ?_ ?_ ?_
                      rotate_left
                      · intro w h; try dsimp only at h
                        obtain ⟨⟨q0, q1⟩, d0, v0, v1', v2'⟩ := h; go_simp; all_goals with_reducible rfl
                      try simp only [pt]
                      refine tkH 33 ?_ ?_ ?_
                      rotate_left
                      · intro w h; try dsimp only at h
                        obtain ⟨⟨q0, q1⟩, d0, v0, v1', v2'⟩ := h; go_simp; all_goals with_reducible rfl
                      try simp only [pt]
                      refine wpAnyH_done (by kernel_rfl) ?_ _
                      go_wp2
                      go_ret
                      exact ⟨rfl, Below.next HB0.out KA15.out.bel⟩
                    exact AllReadyH.nil
                  exact AllReadyH.nil
                exact AllReadyH.nil
              exact AllReadyH.nil
  exact AllReadyH.nil
end Go.Proofs.YtbbgibekplfacaaDoor
