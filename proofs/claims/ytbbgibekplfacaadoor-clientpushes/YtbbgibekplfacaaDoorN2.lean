/- The program's client: New, pending, Confirmed, Resume, copied, Open, Pending. -/
import Derived.Test.YtbbgibekplfacaaDoorRH
import Derived.Test.YtbbgibekplfacaaDoorN1
namespace Go.Proofs.YtbbgibekplfacaaDoor
open Go Go.RowKit
set_option maxRecDepth 20000
theorem most_eq (p : Int) : min (max p 1) 16 = mostOf p := by
  unfold mostOf
  split
  · omega
  · split <;> omega
theorem pk_new {B jb : Nat} {w : World} {FJ : Nat → Prop} (s : Cs) (h : Jx 94 B w jb FJ s.o s.last s.uss) (hn : s.kn = []) (ho : s.op = []) (hB : B ≤ w.heap.size) :
    Pk B (w.alloc (.cells (pcs jb s (.slice none 0 0) (.slice none 0 0)) 79)) w.heap.size (Pf w.heap.size (.slice none 0 0) (fun _ => False) FJ (.slice none 0 0)) s :=
  ⟨jb, FJ, _, _, [], _, ⟨⟨hB, heap_alloc_new _ _, rowR_nil _ _, fun r hr => (by cases hr), fun g hg => hg.elim⟩, hn.symm, h.next (Joins.below_alloc1 _ _), .inl ⟨rfl, ho⟩, fun x hx hf => by
    have := (h.foot x hf).2
    rcases hx with rfl | hx | hx
    · omega
    · cases hx
    · exact hx, fun x hx => by cases hx⟩, rfl⟩
set_option maxHeartbeats 1000000 in
theorem cnew_any (o mtu p last : Int) (uss : List (List Up)) (B jb : Nat) (FJ : Nat → Prop) (w : World) (hB : B ≤ w.heap.size) (h : Jx 94 B w jb FJ o last uss) :
    Calls Tryd.prog 30 #[.pointer (some ⟨jb, 0, none⟩), .int .i64 o, .int .i64 mtu, .int .i64 p] w fun e w' => e = .returned (.pointer (some ⟨w.heap.size, 0, none⟩)) ∧ Below w.heap.size w w' ∧ Pk B w' w.heap.size (Pf w.heap.size (.slice none 0 0) (fun _ => False) FJ (.slice none 0 0)) ⟨o, mtu, mostOf p, last, uss, 0, [], []⟩ := by
  have HP := Lib.hid (pk_new ⟨o, mtu, mostOf p, last, uss, 0, [], []⟩ h rfl rfl hB)
  have HB := Lib.hid (Joins.below_alloc1 w (.cells #[.pointer (some ⟨jb, 0, none⟩), .int .i64 o, .int .i64 mtu, .int .i64 (mostOf p), .slice none 0 0, .int .i64 0, .slice none 0 0] 79))
  have HL := Lib.hid (most_eq p)
  clear h hB
  go_enter Tryd.func30, Tryd.ntmps30
  go_wp2
  rw [HL.out]
  go_ret
  exact ⟨rfl, HB.out, HP.out⟩
section
variable {B b : Nat} {F : Nat → Prop} {s : Cs}
set_option maxHeartbeats 1000000 in
theorem cpending_any (hk : s.k ≤ s.uss.length) (hn : s.uss.length ≤ 1000) (w : World) (h : Pk B w b F s) :
    Calls Tryd.prog 42 #[.pointer (some ⟨b, 0, none⟩)] w fun e w' => e = .returned (.int .i64 ((s.uss.length : Int) - (s.k : Int))) ∧ ∃ m, w' = w.drewN m := by
  obtain ⟨jb, FJ, v, S, rs, vo, hq, rfl⟩ := h
  have c0 := hq.c0
  have c5 := hq.c5
  have HJ := fun n => Lib.hid (jlen_any _ (hq.jx.asit (w' := w.drewN n) rfl))
  have hwr : wrap64 ((s.uss.length : Int) - (s.k : Int)) = (s.uss.length : Int) - (s.k : Int) := by unfold wrap64; omega
  have hwr2 : IntKind.i64.wrap ((s.uss.length : Int) - (s.k : Int)) = (s.uss.length : Int) - (s.k : Int) := i64_id (by omega) (by omega)
  clear hq
  generalize s.uss.length = L at *
  generalize s.k = k at *
  go_enter Tryd.func42, Tryd.ntmps42
  go_wp2_with fail
  go_quiet ((go_at_call 59; exact Calls.quiet_of_same ((HJ _).out)))
  go_wp2
  go_ret
  exact ⟨rfl, _, rfl⟩
set_option maxHeartbeats 1000000 in
theorem cconf_any (hk : s.k ≤ s.uss.length) (hn : s.uss.length ≤ 1000) (w : World) (h : Pk B w b F s) :
    Calls Tryd.prog 18 #[.pointer (some ⟨b, 0, none⟩)] w fun e w' => e = .returned (.bool (decide (s.k = s.uss.length) && decide (s.op.length = 0))) ∧ Below w.heap.size w w' := by
  have HC := fun w h => Lib.hid (cpending_any (B := B) (b := b) (F := F) hk hn w h)
  have HP := Lib.hid h
  obtain ⟨jb, FJ, v, S, rs, vo, hq, rfl⟩ := h
  obtain ⟨a, c, rfl, _⟩ := hq.op.is
  have HK : Hid (∀ m, (w.drewN m).cell? ⟨b, 6, none⟩ = some (.slice a s.op.length c)) := Lib.hid fun m => hq.c6
  clear hq
  by_cases h0 : s.k = s.uss.length
  · have e0 : ((s.uss.length : Int) - (s.k : Int)) = 0 := by omega
    rw [e0] at HC
    rw [decide_eq_true h0, Bool.true_and]
    obtain ⟨t, ht⟩ : ∃ t, decide (s.op.length = 0) = t := ⟨_, rfl⟩
    have ht2 : ((s.op.length : Int) == 0) = t := by
      rw [← ht]
      by_cases hx : s.op.length = 0
      · rw [decide_eq_true hx, hx]; rfl
      · rw [decide_eq_false hx]; exact beq_false_of_ne (by omega)
    rw [ht]
    clear ht h0 e0 hk hn
    go_enter Tryd.func18, Tryd.ntmps18
    go_wp2_with fail
    refine (HC _ HP.out).out.mono ?_
    rintro e w1 ⟨rfl, m, rfl⟩
    have c6 := HK.out m
    go_wp2
    go_ret
    exact ⟨rfl, belN (Below.refl _ _) _⟩
  · have e0 : (((s.uss.length : Int) - (s.k : Int)) == 0) = false := beq_false_of_ne (by omega)
    rw [decide_eq_false h0, Bool.false_and]
    generalize ((s.uss.length : Int) - (s.k : Int)) = D at *
    clear h0 hk hn
    go_enter Tryd.func18, Tryd.ntmps18
    go_wp2_with fail
    refine (HC _ HP.out).out.mono ?_
    rintro e w1 ⟨rfl, m, rfl⟩
    go_wp2
    go_ret
    exact ⟨rfl, belN (Below.refl _ _) _⟩
theorem pk_resume (w : World) {jb : Nat} {FJ S : Nat → Prop} {v vo : Value} {rs : List Rn} (h : Pq B w b jb FJ v S rs vo s) :
    Pk B (((w.setCell ⟨b, 4, none⟩ (.slice none 0 0)).setCell ⟨b, 5, none⟩ (.int .i64 0)).setCell ⟨b, 6, none⟩ (.slice none 0 0)) b (Pf b (.slice none 0 0) (fun _ => False) FJ (.slice none 0 0)) s.resume := by
  have hne : ∀ x, x ≠ b → (((w.setCell ⟨b, 4, none⟩ (.slice none 0 0)).setCell ⟨b, 5, none⟩ (.int .i64 0)).setCell ⟨b, 6, none⟩ (.slice none 0 0)).heap[x]? = w.heap[x]? := fun x hx => by
    rw [Below.heap_setCell _ _ _ _ hx, Below.heap_setCell _ _ _ _ hx, Below.heap_setCell _ _ _ _ hx]
  refine ⟨jb, FJ, _, _, [], _, ⟨⟨h.kn.lo, ?_, rowR_nil _ _, fun r hr => (by cases hr), fun g hg => hg.elim⟩, rfl, h.jx.keep fun x hx => hne x fun e => h.ap b (.inl rfl) (e ▸ hx), .inl ⟨rfl, rfl⟩, fun x hx => ?_, fun x hx => by cases hx⟩, rfl⟩
  · have := h.kn.blk
    simp [World.setCell, Array.getElem?_modify, this]
    rfl
  · rcases hx with rfl | hx | hx
    · exact h.ap x (.inl rfl)
    · cases hx
    · exact hx.elim
set_option maxHeartbeats 1000000 in
theorem cresume_any (w : World) (h : Pk B w b F s) :
    Calls Tryd.prog 27 #[.pointer (some ⟨b, 0, none⟩)] w fun e w' => e = .returned (.tuple #[]) ∧ ∃ F', PkW B w w' b F F' s.resume := by
  obtain ⟨jb, FJ, v, S, rs, vo, hq, rfl⟩ := h
  have f4 := hq.f0 4
  have f5 := hq.f0 5
  have f6 := hq.f0 6
  have c4 := hq.c4
  have c5 := hq.c5
  have c6 := hq.c6
  have HP := Lib.hid (pk_resume w hq)
  clear hq
  go_enter Tryd.func27, Tryd.ntmps27
  go_wp2
  first | go_end0 | refine bodyPost_ret (results_none rfl _ _ _) rfl ?_
  refine ⟨rfl, _, HP.out, ((Lv.set (.inl (.inl rfl)) _ _).trans (Lv.set (.inl (.inl rfl)) _ _)).trans (Lv.set (.inl (.inl rfl)) _ _), fun x hx => .inl ?_⟩
  rcases hx with hx | hx | hx
  · rcases hx with hx | hx | hx
    · exact .inl (.inl hx)
    · cases hx
    · exact hx.elim
  · exact .inr (.inl hx)
  · cases hx
end
set_option maxHeartbeats 1000000 in
theorem copied_any (a : Option Addr) (len cap : Nat) (us : List Up) (hsm : Sm us) (w : World) (hu : IsUs w a len us) :
    Calls Tryd.prog 41 #[.slice a len cap] w fun e w' => e = .returned (.slice (some ⟨w.heap.size + 2, 0, none⟩) len len) ∧ Rw w' (w.heap.size + 2) us ∧ Below w.heap.size w w' := by
  have HC := Lib.hid (rndcopy_any 0 0 a len cap us (by have := hsm.1; have := hu.size; omega) (fun j hj => hsm.2 j (by have := hu.size; omega)) w hu)
  have hF : ∀ W, (Instr.field 35 (.agg #[.int .i64 0, .int .i64 0, .slice (some ⟨w.heap.size + 2, 0, none⟩) len len]) 2).run Tryd.prog W = .ok (.slice (some ⟨w.heap.size + 2, 0, none⟩) len len) W := fun W => by kernel_rfl
  clear hsm hu
  go_enter Tryd.func41, Tryd.ntmps41
  go_wp2_with fail
  refine HC.out.mono ?_
  rintro e w1 ⟨rfl, hr, hb⟩
  have HR := Lib.hid hr
  have HB := Lib.hid hb
  clear hr hb HC
  go_wp2
  go_ret
  exact ⟨rfl, HR.out, HB.out⟩
section
variable {B b : Nat} {F : Nat → Prop} {s : Cs}
set_option maxHeartbeats 1000000 in
theorem copen_any (hsm : Sm s.op) (w : World) (h : Pk B w b F s) :
    Calls Tryd.prog 17 #[.pointer (some ⟨b, 0, none⟩)] w fun e w' => e = .returned (.slice (some ⟨w.heap.size + 2, 0, none⟩) s.op.length s.op.length) ∧ Rw w' (w.heap.size + 2) s.op ∧ Below w.heap.size w w' := by
  obtain ⟨jb, FJ, v, S, rs, vo, hq, rfl⟩ := h
  obtain ⟨a, c, rfl, hu, _⟩ := hq.op.is
  have c6 := hq.c6
  have HC := Lib.hid (copied_any a s.op.length c s.op hsm w hu)
  clear hq hu
  go_enter Tryd.func17, Tryd.ntmps17
  go_wp2_with fail
  refine HC.out.mono ?_
  rintro e w1 ⟨rfl, hr, hb⟩
  have HR := Lib.hid hr
  have HB := Lib.hid hb
  clear hr hb HC
  go_wp2
  go_ret
  exact ⟨rfl, HR.out, HB.out⟩
theorem fromK_id {k L : Nat} (h : k ≤ L) : fromK (k : Int) L = k := by
  unfold fromK
  rw [if_neg (by omega)]
  split <;> omega
set_option maxHeartbeats 2000000 in
theorem cpend_any (hk : s.k ≤ s.uss.length) (hn : s.uss.length ≤ 1000) (w : World) (h : Pk B w b F s) :
    Calls Tryd.prog 15 #[.pointer (some ⟨b, 0, none⟩)] w fun e w' => ∃ g xs, e = .returned (.slice (some ⟨g, 0, none⟩) (s.uss.length - s.k) (s.uss.length - s.k)) ∧ Rz w' g xs ∧ w.heap.size ≤ g ∧ (∀ r ∈ xs, Own w.heap.size w' r) ∧ Of s.o s.k (s.uss.drop s.k) xs ∧ Below w.heap.size w w' := by
  obtain ⟨jb, FJ, v, S, rs, vo, hq, rfl⟩ := h
  have c0 := hq.c0
  have c5 := hq.c5
  have HC := Lib.hid (jfrom_any (s.k : Int) hn w.drew (hq.jx.asit rfl))
  have HB := Lib.hid (hq.next (w' := w.drew) (Below.refl w.heap.size w).drew)
  rw [fromK_id hk] at HC
  have HN : Hid (∀ W, Below w.heap.size w W → W.cell? ⟨b, 0, none⟩ = some (.pointer (some ⟨jb, 0, none⟩)) ∧ W.cell? ⟨b, 5, none⟩ = some (.int .i64 (s.k : Int))) := Lib.hid fun W hW => ⟨(hq.next hW).c0, (hq.next hW).c5⟩
  clear hq
  generalize s.uss.length - s.k = D at *
  go_enter Tryd.func15, Tryd.ntmps15
  go_wp2_with fail
  refine wp_region_held_drew (S := fun w' => w'.cell? ⟨b, 0, none⟩ = some (.pointer (some ⟨jb, 0, none⟩)) ∧ w'.cell? ⟨b, 5, none⟩ = some (.int .i64 (s.k : Int))) (by kernel_rfl) ?_ (fun hH => ?_)
  · exact ⟨c0, c5⟩
  refine tkH 0 ?_ ?_ ?_
  rotate_left
  · intro w h; try dsimp only at h
    obtain ⟨q0, q5⟩ := h; go_simp; all_goals with_reducible rfl
  try simp only [pt]
  refine tkH 1 ?_ ?_ ?_
  rotate_left
  · intro w h; try dsimp only at h
    obtain ⟨q0, q5⟩ := h; go_simp; all_goals with_reducible rfl
  try simp only [pt]
  refine tkH 2 ?_ ?_ ?_
  rotate_left
  · intro w h; try dsimp only at h
    obtain ⟨q0, q5⟩ := h; go_simp; all_goals with_reducible rfl
  try simp only [pt]
  refine tkH 3 ?_ ?_ ?_
  rotate_left
  · intro w h; try dsimp only at h
    obtain ⟨q0, q5⟩ := h; go_simp; all_goals with_reducible rfl
  try simp only [pt]
  refine tkH 4 ?_ ?_ ?_
  rotate_left
  · intro w h; try dsimp only at h
    obtain ⟨q0, q5⟩ := h; go_simp; all_goals with_reducible rfl
  try simp only [pt]
  refine tkH 5 ?_ ?_ ?_
  rotate_left
  · intro w h; try dsimp only at h
    obtain ⟨q0, q5⟩ := h; go_simp; all_goals with_reducible rfl
  try simp only [pt]
  refine tkH 6 ?_ ?_ ?_
  rotate_left
  · intro w h; try dsimp only at h
    obtain ⟨q0, q5⟩ := h; go_simp; all_goals with_reducible rfl
  try simp only [pt]
  refine tkH 7 ?_ ?_ ?_
  rotate_left
  · intro w h; try dsimp only at h
    obtain ⟨q0, q5⟩ := h; go_simp; all_goals with_reducible rfl
  try simp only [pt]
  refine wpAnyH_ready (rs := [8]) (by kernel_rfl) (by simp) ?_
  refine rdH (fun K hK => ?_) ?_
  · go_simp
    refine HC.out.mono ?_
    rintro e w1 ⟨g, xs, rfl, x1, x2, x3, x4, hb'⟩
    have hb : Below w.heap.size w w1 := ⟨hb'.os, hb'.tape, hb'.output, hb'.size, hb'.block⟩
    have hn1 := HN.out _ hb
    have HX := Lib.hid (And.intro x1 (And.intro x2 (And.intro x3 (And.intro x4 hb))))
    clear x1 x2 x3 x4 hb hb'
    go_wp2_with fail
    refine hK.out _ _ ?_ (fun hH => ?_)
    · exact hn1
    clear hK K
    try simp only [pt]
    refine tkH 9 ?_ ?_ ?_
    rotate_left
    · intro w h; try dsimp only at h
      obtain ⟨q0, q5⟩ := h; go_simp; all_goals with_reducible rfl
    try simp only [pt]
    refine wpAnyH_done (by kernel_rfl) ?_ _
    clear hn1 c0 c5
    go_wp2
    go_ret
    exact ⟨g, xs, rfl, HX.out⟩
  exact AllReadyH.nil
end
end Go.Proofs.YtbbgibekplfacaaDoor
