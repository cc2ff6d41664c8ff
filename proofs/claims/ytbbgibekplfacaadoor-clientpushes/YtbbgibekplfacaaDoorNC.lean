/- Calls that came in; great; both clients side by side. -/
import Derived.Test.YtbbgibekplfacaaDoorNA
import Derived.Test.YtbbgibekplfacaaDoorNB
import Derived.Test.YtbbgibekplfacaaDoorY6
namespace Go.Proofs.YtbbgibekplfacaaDoor
open Go Go.RowKit
set_option maxRecDepth 20000
/-- A call: its kind, its update, its round. -/
abbrev Ac := Int × Up × Rn
def ac0 : Ac := (0, up0, rn0)
/-- The eight cells of a call lie there. -/
structure A8 (w : World) (b o : Nat) (c : Ac) : Prop where
  k : w.cell? ⟨b, o, none⟩ = some (.int .i64 c.1)
  uk : w.cell? ⟨b, o + 1, none⟩ = some (.string c.2.1.1)
  ux : w.cell? ⟨b, o + 2, none⟩ = some (.int .i64 c.2.1.2.1)
  un : w.cell? ⟨b, o + 3, none⟩ = some (.int .i64 c.2.1.2.2.1)
  ut : w.cell? ⟨b, o + 4, none⟩ = some (.string c.2.1.2.2.2)
  ro : w.cell? ⟨b, o + 5, none⟩ = some (.int .i64 c.2.2.o)
  rn : w.cell? ⟨b, o + 6, none⟩ = some (.int .i64 c.2.2.n)
  ru : w.cell? ⟨b, o + 7, none⟩ = some (.slice c.2.2.a c.2.2.len c.2.2.cap)
theorem A8.below {w w' : World} {B b o : Nat} {c : Ac} (h : A8 w b o c) (hb : Below B w w') (hl : b < B) : A8 w' b o c := by
  obtain ⟨h1, h2, h3, h4, h5, h6, h7, h8⟩ := h
  constructor <;> (rw [hb.cell hl]; assumption)
/-- What the walk is told of a row of calls. -/
structure IsAs (w : World) (a : Option Addr) (len : Nat) (l : List Ac) : Prop where
  size : l.length = len
  lies : 0 < len → ∃ b off, a = some ⟨b, off, none⟩ ∧ b < w.heap.size ∧ ∀ i, i < len → A8 w b (off + i * 8) (l.getD i ac0)
  each : ∀ i, i < len → Ru w (l.getD i ac0).2.2
theorem isAs_below {w w' : World} {a : Option Addr} {len : Nat} {l : List Ac} (h : IsAs w a len l) (hb : Below w.heap.size w w') : IsAs w' a len l :=
  ⟨h.size, fun h0 => by
    obtain ⟨b, off, e, hl, hf⟩ := h.lies h0
    exact ⟨b, off, e, by have := hb.size; omega, fun i hi => (hf i hi).below hb hl⟩, fun i hi => (h.each i hi).below hb⟩
theorem acells_of {w wr : World} {a : Option Addr} {len : Nat} {l : List Ac} {k : Nat} (h : IsAs w a len l) (hb : Below w.heap.size w wr) (hk : k < len) : ∃ b off, a = some ⟨b, off, none⟩ ∧ A8 wr b (off + k * 8) (l.getD k ac0) := by
  obtain ⟨b, off, rfl, _, hf⟩ := (isAs_below h hb).lies (by omega)
  exact ⟨b, off, rfl, hf k hk⟩
/-- A call in a block of its own. -/
def Ab (w : World) (g : Nat) (kd : Int) (uk : ByteArray) (ux un : Int) (ut : ByteArray) (ro rn : Int) (ra : Option Addr) (rl rc : Nat) : Prop := w.heap[g]? = some (.cells #[.int .i64 kd, .string uk, .int .i64 ux, .int .i64 un, .string ut, .int .i64 ro, .int .i64 rn, .slice ra rl rc] 37 (0, 0))
section
variable {w w' : World} {g : Nat} {kd : Int} {uk : ByteArray} {ux un : Int} {ut : ByteArray} {ro rn : Int} {ra : Option Addr} {rl rc : Nat}
theorem Ab.c0 (h : Ab w g kd uk ux un ut ro rn ra rl rc) : w.cell? ⟨g, 0, none⟩ = some (.int .i64 kd) := cell_at h 0 _ rfl
theorem Ab.up (h : Ab w g kd uk ux un ut ro rn ra rl rc) : w.cell? ⟨g, 1, none⟩ = some (.string uk) ∧ w.cell? ⟨g, 2, none⟩ = some (.int .i64 ux) ∧ w.cell? ⟨g, 3, none⟩ = some (.int .i64 un) ∧ w.cell? ⟨g, 4, none⟩ = some (.string ut) := ⟨cell_at h 1 _ rfl, cell_at h 2 _ rfl, cell_at h 3 _ rfl, cell_at h 4 _ rfl⟩
theorem Ab.rd (h : Ab w g kd uk ux un ut ro rn ra rl rc) : w.cell? ⟨g, 5, none⟩ = some (.int .i64 ro) ∧ w.cell? ⟨g, 6, none⟩ = some (.int .i64 rn) ∧ w.cell? ⟨g, 7, none⟩ = some (.slice ra rl rc) := ⟨cell_at h 5 _ rfl, cell_at h 6 _ rfl, cell_at h 7 _ rfl⟩
theorem Ab.same (h : Ab w g kd uk ux un ut ro rn ra rl rc) (e : w'.heap[g]? = w.heap[g]?) : Ab w' g kd uk ux un ut ro rn ra rl rc := e.trans h
theorem Ab.lt (h : Ab w g kd uk ux un ut ro rn ra rl rc) : g < w.heap.size := (Array.getElem?_eq_some_iff.1 h).1
theorem Ab.next (h : Ab w g kd uk ux un ut ro rn ra rl rc) (hb : Below w.heap.size w w') : Ab w' g kd uk ux un ut ro rn ra rl rc := h.same (hb.block g h.lt)
end
/-- A call that is played. -/
def okA (x : Ac) : Prop := ¬ gU x.2.1 ∧ ¬ Y.gR x.2.2.us
theorem okA_sl {x : Ac} (h : okA x) : Sl x.2.2.us ∧ x.2.1.1.size ≤ 1000 ∧ Y.Sh x.2.1.2.2.2 := by
  obtain ⟨h0, h1⟩ := h
  unfold gU at h0
  unfold Y.gR gAll at h1
  refine ⟨⟨by omega, fun u hu => ?_⟩, by omega, by show x.2.1.2.2.2.size ≤ 100000; omega⟩
  obtain ⟨i, hi, rfl⟩ := List.mem_iff_getElem.1 hu
  have h2 : ¬ gU (x.2.2.us.getD i up0) := fun hx => h1 (.inr (.inr ⟨i, hi, hx⟩))
  have e : x.2.2.us.getD i up0 = x.2.2.us[i] := by simp [List.getD_eq_getElem?_getD, hi]
  rw [e] at h2
  unfold gU at h2
  exact ⟨by omega, by show x.2.2.us[i].2.2.2.size ≤ 100000; omega⟩
set_option maxHeartbeats 4000000 in
theorem great_any (a : Option Addr) (len cap : Nat) (l : List Ac) (w : World) (h : IsAs w a len l) :
    Calls Tryd.prog 11 #[.slice a len cap] w fun e w' => (∃ bt, e = .returned (.bool bt) ∧ (bt = false → len ≤ 50 ∧ ∀ i, i < len → okA (l.getD i ac0))) ∧ Below w.heap.size w w' := by
  have H := Lib.hid h
  clear h
  by_cases hl : 50 < len
  · have q : decide ((50 : Int) < (len : Int)) = true := decide_eq_true (by omega)
    go_enter Tryd.func11, Tryd.ntmps11
    go_wp2
    go_ret
    exact ⟨⟨true, rfl, fun e => by cases e⟩, Below.refl _ _⟩
  have q : decide ((50 : Int) < (len : Int)) = false := decide_eq_false (by omega)
  go_enter Tryd.func11, Tryd.ntmps11
  go_wp2_with fail
  go_loopw [10] (fun v10 wr => ∃ k : Nat, k ≤ len ∧ v10 = .int .i64 k ∧ Below w.heap.size w wr ∧ ∀ i, i < k → okA (l.getD i ac0)) (fun v10 _ => len - (intOf v10).toNat)
  case atStart => exact ⟨0, Nat.zero_le _, rfl, Below.refl _ _, fun i hi => absurd hi (by omega)⟩
  case round =>
    obtain ⟨k, hk, rfl, hbel, hok⟩ := hrel
    by_cases hlt : k < len
    · obtain ⟨b, off, e1, c0, c1, c2, c3, c4, c5, c6, c7⟩ := acells_of H.out hbel hlt
      subst e1
      have hru := (H.out.each k hlt).below hbel
      have hstep : ∀ (x : Ac), l.getD k ac0 = x → okA x → ∀ i, i < k + 1 → okA (l.getD i ac0) := fun x hx h i hi => by
        by_cases h2 : i < k
        · exact hok i h2
        · rw [show i = k by omega, hx]; exact h
      generalize hx : l.getD k ac0 = x at *
      obtain ⟨kd, ⟨uk, ux, un, ut⟩, ⟨ro, rn, ra, rl, rc, rus⟩⟩ := x
      simp only at c0 c1 c2 c3 c4 c5 c6 c7 hru
      have hstep := hstep _ rfl
      have HST := Lib.hid hstep
      have hab : Ab (wr.alloc (.cells #[.int .i64 kd, .string uk, .int .i64 ux, .int .i64 un, .string ut, .int .i64 ro, .int .i64 rn, .slice ra rl rc] 37)) wr.heap.size kd uk ux un ut ro rn ra rl rc := heap_alloc_new wr _
      obtain ⟨e1, e2, e3, e4⟩ := hab.up
      have hA := Joins.below_alloc1 wr (.cells #[.int .i64 kd, .string uk, .int .i64 ux, .int .i64 un, .string ut, .int .i64 ro, .int .i64 rn, .slice ra rl rc] 37)
      have HB := Lib.hid (Below.next hbel hA)
      have HAB := Lib.hid hab
      have HU := Lib.hid (hru.below hA).1
      simp only at HU
      clear hru hab hok hbel hstep hx hA
      by_cases hg : gU (uk, ux, un, ut)
      · have HG := fun W => Lib.hid (great_u_yes (uk, ux, un, ut) hg W)
        simp only [uu] at HG
        clear hg
        go_wp2_with fail
        refine (HG _).out.mono ?_
        rintro e w2 ⟨rfl, hb⟩
        have HB2 := Lib.hid (Below.next HB.out hb)
        clear hb HB
        go_wp2
        go_ret
        exact ⟨⟨true, rfl, fun e => by cases e⟩, HB2.out⟩
      · have HG := fun W => Lib.hid (great_u_no (uk, ux, un, ut) hg W)
        simp only [uu] at HG
        have HNU := Lib.hid hg
        clear hg
        go_wp2_with fail
        refine (HG _).out.mono ?_
        rintro e w2 ⟨rfl, hb⟩
        have HB2 := Lib.hid (Below.next HB.out hb)
        obtain ⟨m5, m6, m7⟩ := (HAB.out.next hb).rd
        have HU2 := Lib.hid (isUs_below HU.out hb)
        clear hb HB
        by_cases hg : Y.gR rus
        · have HG := fun W h => Lib.hid (Y.greatR_yes ro rn ra rl rc rus hg W h)
          clear hg
          go_wp2_with fail
          refine (HG _ HU2.out).out.mono ?_
          rintro e w3 ⟨rfl, hb⟩
          have HB3 := Lib.hid (Below.next HB2.out hb)
          clear hb HB2 m5 m6 m7
          go_wp2
          go_ret
          exact ⟨⟨true, rfl, fun e => by cases e⟩, HB3.out⟩
        · have HG := fun W h => Lib.hid (Y.greatR_no ro rn ra rl rc rus hg W h)
          have HOK2 := Lib.hid (HST.out ⟨HNU.out, hg⟩)
          clear hg
          go_wp2_with fail
          refine (HG _ HU2.out).out.mono ?_
          rintro e w3 ⟨rfl, hb⟩
          have HB3 := Lib.hid (Below.next HB2.out hb)
          clear hb HB2 m5 m6 m7
          go_wp2
          go_roundw
          case rel => exact ⟨k + 1, by omega, by go_num, HB3.out, HOK2.out⟩
          case measure => simp [intOf]; omega
    · obtain rfl : k = len := by omega
      have HBEL := Lib.hid hbel
      have HOK := Lib.hid hok
      clear hbel hok
      go_wp2
      go_ret
      exact ⟨⟨false, rfl, fun _ => ⟨by omega, HOK.out⟩⟩, HBEL.out⟩
/-- Both clients, side by side: W is the world in which the law began. -/
structure Kq (W w : World) (cb db : Nat) (P D : Nat → Prop) (n : Nat) (s : Cs) : Prop where
  bel : Below W.heap.size W w
  pk : Pk W.heap.size w cb P s
  dk : Dk W.heap.size w db D s
  ap : ∀ x, P x → ¬ D x
  ok : s.Ok n
/-- What may be written. -/
def Kf (W : World) (P D : Nat → Prop) (x : Nat) : Prop := W.heap.size ≤ x ∧ (P x ∨ D x)
section
variable {W w w' : World} {cb db : Nat} {P D P' D' G : Nat → Prop} {n m : Nat} {s s' : Cs}
theorem Kq.next (h : Kq W w cb db P D n s) (hb : Below w.heap.size w w') : Kq W w' cb db P D n s := ⟨Below.next h.bel hb, h.pk.next hb, h.dk.next hb, h.ap, h.ok⟩
theorem Kq.foot (h : Kq W w cb db P D n s) (x : Nat) (hx : Kf W P D x) : x < w.heap.size := by
  rcases hx.2 with hx | hx
  · exact (h.pk.foot x hx).2
  · exact h.dk.foot x hx
theorem Kq.mono (h : Kq W w cb db P D n s) (hn : s.Ok m) : Kq W w cb db P D m s := ⟨h.bel, h.pk, h.dk, h.ap, hn⟩
/-- A block that the law itself writes. -/
theorem Kq.own (h : Kq W w cb db P D n s) (hl : Lv w w' G) (hg : ∀ x, G x → W.heap.size ≤ x ∧ ¬ P x ∧ ¬ D x) : Kq W w' cb db P D n s :=
  ⟨hl.below h.bel (fun k hk => (hg k hk).1) h.bel.size, h.pk.other hl fun x hx hy => (hg x hy).2.1 hx, h.dk.other hl fun x hx hy => (hg x hy).2.2 hx, h.ap, h.ok⟩
end
/-- How it stands behind a call on one or both. -/
structure KqW (W w w' : World) (cb db : Nat) (P D P' D' : Nat → Prop) (n : Nat) (s : Cs) : Prop where
  kq : Kq W w' cb db P' D' n s
  lv : Lv w w' (Kf W P D)
  new : ∀ x, P' x ∨ D' x → P x ∨ D x ∨ w.heap.size ≤ x
section
variable {W w w1 w' : World} {cb db : Nat} {P D P1 D1 P' D' : Nat → Prop} {n m : Nat} {s s' : Cs}
theorem KqW.newf (h : KqW W w w' cb db P D P' D' n s) (x : Nat) (hx : Kf W P' D' x) : Kf W P D x ∨ w.heap.size ≤ x := by
  rcases h.new x hx.2 with hy | hy | hy
  · exact .inl ⟨hx.1, .inl hy⟩
  · exact .inl ⟨hx.1, .inr hy⟩
  · exact .inr hy
theorem kqW_no (h : Kq W w cb db P D n s) (hb : Below w.heap.size w w') : KqW W w w' cb db P D P D n s := ⟨h.next hb, Lv.ofBelow hb _, fun _ hx => hx.elim .inl fun h => .inr (.inl h)⟩
/-- A block that no one else writes. -/
theorem KqW.held (h : KqW W w w' cb db P D P' D' n s) {g : Nat} (hg : g < w.heap.size) (hf : ¬ Kf W P D g) : w'.heap[g]? = w.heap[g]? ∧ ¬ Kf W P' D' g := by
  refine ⟨h.lv.block g hg hf, fun hx => ?_⟩
  rcases h.newf g hx with hy | hy
  · exact hf hy
  · omega
/-- A call on the program's. -/
theorem kq_p (h : Kq W w cb db P D n s) (hp : PkW W.heap.size w w' cb P P' s') : Below W.heap.size W w' ∧ Lv w w' (Kf W P D) ∧ Dk W.heap.size w' db D s ∧ (∀ x, P' x → ¬ D x) := by
  have hl : Lv w w' (Kf W P D) := ⟨hp.lv.os, hp.lv.tape, hp.lv.output, hp.lv.size, fun x hx hn => hp.lv.block x hx fun hy => hn ⟨(h.pk.foot x hy).1, .inl hy⟩⟩
  refine ⟨hl.below h.bel (fun k hk => hk.1) h.bel.size, hl, h.dk.other hp.lv fun x hx hy => h.ap x hy hx, fun x hx hd => ?_⟩
  rcases hp.new x hx with hy | hy
  · exact h.ap x hy hd
  · have := h.dk.foot x hd
    omega
/-- .. and then one on the document's. -/
theorem kq_d (h : Kq W w cb db P D n s) (hp : PkW W.heap.size w w1 cb P P1 s') (hd : DkW W.heap.size w1 w' db D D' s') (hok : s'.Ok m) : KqW W w w' cb db P D P1 D' m s' := by
  obtain ⟨h1, h2, h3, h4⟩ := kq_p h hp
  have hs := hp.lv.size
  have hl2 : Lv w1 w' (Kf W P D) := ⟨hd.lv.os, hd.lv.tape, hd.lv.output, hd.lv.size, fun x hx hn => hd.lv.block x hx fun hy => hn ⟨hy.1, .inr hy.2⟩⟩
  refine ⟨⟨hd.lv.below h1 (fun k hk => hk.1) h1.size, hp.pk.other hd.lv fun x hx hy => h4 x hx hy.2, hd.dk, fun x hx hy => ?_, hok⟩, h2.trans hl2, fun x hx => ?_⟩
  · rcases hd.new x hy with hz | hz
    · exact h4 x hx hz
    · have := (hp.pk.foot x hx).2
      omega
  · rcases hx with hx | hx
    · rcases hp.new x hx with hy | hy
      · exact .inl hy
      · exact .inr (.inr hy)
    · rcases hd.new x hx with hy | hy
      · exact .inr (.inl hy)
      · exact .inr (.inr (Nat.le_trans hs hy))
/-- A call on the program's alone: the document's isn't used any more, but stays. -/
theorem KqW.trans (h : KqW W w w1 cb db P D P1 D1 n s) (h' : KqW W w1 w' cb db P1 D1 P' D' m s') : KqW W w w' cb db P D P' D' m s' := by
  have hs := h.lv.size
  refine ⟨h'.kq, ⟨h'.lv.os.trans h.lv.os, h'.lv.tape.trans h.lv.tape, h'.lv.output.trans h.lv.output, Nat.le_trans hs h'.lv.size, fun x hx hn => (h'.lv.block x (Nat.lt_of_lt_of_le hx hs) fun hy => ?_).trans (h.lv.block x hx hn)⟩, fun x hx => ?_⟩
  · rcases h.newf x hy with hz | hz
    · exact hn hz
    · omega
  · rcases h'.new x hx with hy | hy | hy
    · exact h.new x (.inl hy)
    · exact h.new x (.inr hy)
    · exact .inr (.inr (by omega))
end
end Go.Proofs.YtbbgibekplfacaaDoor
