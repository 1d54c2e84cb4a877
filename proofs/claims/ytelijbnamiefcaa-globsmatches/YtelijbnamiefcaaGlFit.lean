/- What fitting answers. -/
import Derived.Test.YtelijbnamiefcaaGlMach
namespace Go.Proofs.Ytelijbnamiefcaa.Gl
open Go.RowKit

/-- the places that fit a byte, once they are laid -/
def Fits (w : World) (ts : List Th) (m g2 : Nat) (f : UInt8 → Value) : Prop := ∀ c, f c = .slice none 0 0 ∨ ∃ g F, f c = .slice (some ⟨g, 0, none⟩) m m ∧ Pl w g m F ∧ (∀ j, hasW F j = fit ts j c) ∧ g ≠ g2
/-- a machine at b: its things, where it stays, where it is -/
structure Mach (w : World) (B b : Nat) (ts : List Th) (m : Nat) (o : Value) (g1 g2 : Nat) (S A : Nat → Wd) (f : UInt8 → Value) : Prop where
  mc : Mc w b o (.slice (some ⟨g1, 0, none⟩) m m) (.slice (some ⟨g2, 0, none⟩) m m) f
  ths : ∃ ys B', w.ownsRow B' 67 2 o (ones ts).length (tc ys) ∧ TOk w ys (ones ts)
  st : Pl w g1 m S
  stj : ∀ j, hasW S j = stayP ts j
  at' : Pl w g2 m A
  fits : Fits w ts m g2 f
  ne : g1 ≠ g2
  hb : B ≤ b
  h2 : B ≤ g2
theorem made_u64 (m : Nat) (hm : m ≤ 1000) (W : World) : (Instr.makeSlice 39 (.int .i64 (m : Int)) (.int .i64 (m : Int))).run Try.prog W = .ok (.slice (some ⟨W.heap.size, 0, none⟩) m m) (W.alloc (.cells (pv m fun _ => 0) 72)) := by
  obtain ⟨i0, hi, hz0, hz1, hz2⟩ := info_parts Try.infoU64
  have h := run_makeSlice (P := Try.prog) (w := W) 39 72 i0 (.int .u64 0) Try.underlying39 hi hz0 .i64 .i64 (m : Int) (m : Int) (by omega) (by omega) (by rw [hz1]; omega) (by rw [hz2]; omega) (by omega)
  rw [h]
  simp only [Int.toNat_natCast, hz1, Nat.mul_one]
  congr 3
  apply Array.toList_inj.1
  rw [show (Value.int .u64 0).cells = #[.int .u64 0] from rfl, toList_madeCells_one, pl_zero]
theorem nil_yes (W : World) : (binOp .eql 39 (.slice none 0 0) (.slice none 0 0)).run Try.prog W = .ok (.bool true) W := by kernel_rfl
theorem nil_no (g m : Nat) (W : World) : (binOp .eql 39 (.slice (some ⟨g, 0, none⟩) m m) (.slice none 0 0)).run Try.prog W = .ok (.bool false) W := by kernel_rfl
theorem fit_lt' {ts : List Th} {j : Nat} (c : UInt8) (h : (ones ts).length ≤ j) : fit ts j c = false := by
  unfold fit; rw [List.getElem?_eq_none h]
/-- so far as the loop over the things has come -/
def fitTo (ts : List Th) (c : UInt8) (k j : Nat) : Bool := decide (j < k) && fit ts j c
theorem fitTo_yes (ts : List Th) (c : UInt8) (k j : Nat) (h : fit ts k c = true) : fitTo ts c (k + 1) j = (fitTo ts c k j || decide (j = k)) := by
  unfold fitTo
  by_cases e : j = k
  · subst e; simp [h]
  · have : decide (j < k + 1) = decide (j < k) := by rw [decide_eq_decide]; omega
    simp [this, e]
theorem fitTo_no (ts : List Th) (c : UInt8) (k j : Nat) (h : fit ts k c = false) : fitTo ts c (k + 1) j = fitTo ts c k j := by
  unfold fitTo
  by_cases e : j = k
  · subst e; simp [h]
  · have : decide (j < k + 1) = decide (j < k) := by rw [decide_eq_decide]; omega
    simp [this]
theorem fitTo_end (ts : List Th) (c : UInt8) (k j : Nat) (h : (ones ts).length ≤ k) : fitTo ts c k j = fit ts j c := by
  unfold fitTo
  by_cases e : j < k
  · simp [e]
  · rw [fit_lt' c (by omega)]; simp
/-- all that there was but the block G stays as it is -/
def Fr (G : Nat) (w w' : World) : Prop := w.heap.size ≤ w'.heap.size ∧ ∀ k, k < w.heap.size → k ≠ G → w'.heap[k]? = w.heap[k]?
theorem Fr.refl (G : Nat) (w : World) : Fr G w w := ⟨Nat.le_refl _, fun _ _ _ => rfl⟩
theorem Fr.trans {G : Nat} {x y z : World} (h : Fr G x y) (h' : Fr G y z) : Fr G x z := ⟨Nat.le_trans h.1 h'.1, fun k hk hn => (h'.2 k (Nat.lt_of_lt_of_le hk h.1) hn).trans (h.2 k hk hn)⟩
theorem Fr.of (G : Nat) {w w' : World} (h : Below w.heap.size w w') : Fr G w w' := ⟨h.size, fun k hk _ => h.block k hk⟩
theorem Fr.set (G : Nat) (w : World) (i : Nat) (x : Value) : Fr G w (w.setCell ⟨G, i, none⟩ x) := ⟨by simp, fun k _ hn => heap_setCell_other _ _ _ _ hn⟩
theorem Fr.drewN {G : Nat} {w w' : World} (h : Fr G w w') (q : Nat) : Fr G w (w'.drewN q) := h
theorem Fr.drew {G : Nat} {w w' : World} (h : Fr G w w') : Fr G w w'.drew := h
theorem Fr.keep {G : Nat} {w w' : World} (h : Fr G w w') {k : Nat} {x : Obj} (hk : w.heap[k]? = some x) (hn : k ≠ G) : w'.heap[k]? = some x := (h.2 k (Array.getElem?_eq_some_iff.1 hk).1 hn).trans hk
theorem Fr.sep {G : Nat} {w w' : World} (h : Fr G w w') {c : Array Value} {e : TypeId} {z : Nat × Nat} (hG : w.heap[G]? = some (Obj.cells c e z)) : Sep e w w' := by
  refine ⟨h.1, fun k c' e' z' hk he => h.keep hk fun e1 => ?_⟩
  rw [e1, hG] at hk
  injection hk with hk
  injection hk with _ h2 _
  exact he h2.symm
theorem Fits.fr {w w' : World} {ts : List Th} {m g2 G : Nat} {f : UInt8 → Value} (h : Fits w ts m g2 f) (hf : Fr G w w') (hG : w.heap[G]? = none ∨ G = g2) : Fits w' ts m g2 f := fun c => by
  rcases h c with h | ⟨g, F, h1, h2, h3, h4⟩
  · exact .inl h
  · refine .inr ⟨g, F, h1, hf.keep h2 fun e => ?_, h3, h4⟩
    rcases hG with hG | hG
    · rw [← e] at hG; unfold Pl at h2; rw [hG] at h2; cases h2
    · exact h4 (e.trans hG)
/-- what fitting answers -/
def FitR (w w' : World) (B b : Nat) (ts : List Th) (m : Nat) (o : Value) (g1 g2 : Nat) (S A : Nat → Wd) (c : UInt8) (e : Ending) : Prop :=
  ∃ f g F, e = .returned (.slice (some ⟨g, 0, none⟩) m m) ∧ Mach w' B b ts m o g1 g2 S A f ∧ Pl w' g m F ∧ (∀ j, hasW F j = fit ts j c) ∧ g ≠ g2 ∧ Below B w w'

set_option maxHeartbeats 1000000 in
set_option maxRecDepth 100000 in
theorem fitting_any (B b : Nat) (ts : List Th) (m : Nat) (o : Value) (g1 g2 : Nat) (S A : Nat → Wd) (f : UInt8 → Value) (c : UInt8) (w : World) (hM : Mach w B b ts m o g1 g2 S A f) (hm : m ≤ 1000) (hl : (ones ts).length ≤ 4096) (hw : (ones ts).length < 64 * m) :
    Calls Try.prog 33 #[.pointer (some ⟨b, 0, none⟩), .int .u8 c.toNat] w fun e w' => FitR w w' B b ts m o g1 g2 S A c e := by
  have hc0 := hM.mc.cell0
  have hc2 := hM.mc.cell2
  have hcf := hM.mc.cellf c
  have hfz := hM.mc.frozen (3 + c.toNat)
  have hblt := hM.mc.lt
  have hny := nil_yes
  have hnn := nil_no
  have h256 : (c.toNat : Int) < 256 := by have := c.toNat_lt; omega
  have HM := hide hM
  rcases hM.fits c with hf | ⟨g, F, hf, hPF, hFj, hne⟩
  · rw [hf] at hcf
    have hmk := made_u64 m hm
    obtain ⟨z0, hz0⟩ : ∃ z0, z0 = pv m (fun _ => 0) := ⟨_, rfl⟩
    rw [← hz0] at hmk
    have HZ0 := hide hz0
    clear hz0 hf
    obtain ⟨ys, B', hO, hT⟩ := hM.ths
    obtain ⟨ao, co, ho⟩ : ∃ ao co, o = .slice ao (ones ts).length co := by
      rcases hO.2 with ⟨hv, h0⟩ | ⟨g, cap, cur, hv, _⟩
      · exact ⟨none, 0, by rw [hv, h0]⟩
      · exact ⟨_, _, hv⟩
    subst ho
    obtain ⟨i0, hi, hi0, hi1, hi2⟩ := info_parts Try.infoThing
    have hOf : Hid (∀ k, k < (ones ts).length → ∃ t, (ones ts)[k]? = some t) := fun k hk => ⟨_, List.getElem?_eq_getElem hk⟩
    have hfit : Hid (∀ k t, (ones ts)[k]? = some t → fit ts k c = t.p c) := fun k t h => by unfold fit; rw [h]
    -- the world behind the region
    obtain ⟨w1, hw1⟩ : ∃ w1, w1 = ((w.setCell ⟨b, 3 + c.toNat, none⟩ (.slice (some ⟨w.heap.size, 0, none⟩) m m)).alloc (.cells z0 72)).drew := ⟨_, rfl⟩
    have hb1 : Below w.heap.size (w.setCell ⟨b, 3 + c.toNat, none⟩ (.slice (some ⟨w.heap.size, 0, none⟩) m m)) w1 := by
      rw [hw1]; exact below_drew1 ((Below.refl _ _).alloc (by simp) _)
    have hM1 : Hid (Mc w1 b (.slice ao (ones ts).length co) (.slice (some ⟨g1, 0, none⟩) m m) (.slice (some ⟨g2, 0, none⟩) m m) (fun d => if d = c then .slice (some ⟨w.heap.size, 0, none⟩) m m else f d)) := (hb1.block b hblt).trans (hM.mc.setf c _)
    have hs1 : Sep 42 w w1 := (Sep.set (a := ⟨b, 3 + c.toNat, none⟩) hM.mc _).trans (by rw [hw1]; exact (Sep.of _ ((Below.refl _ _).alloc (Nat.le_refl _) _)).drew)
    have hG1 : Hid (Pl w1 w.heap.size m (fun _ => 0)) := by
      have := heap_alloc_new (w.setCell ⟨b, 3 + c.toNat, none⟩ (.slice (some ⟨w.heap.size, 0, none⟩) m m)) (.cells z0 72)
      rw [unhide HZ0] at this
      rw [hw1, unhide HZ0]
      rw [show (w.setCell ⟨b, 3 + c.toNat, none⟩ (.slice (some ⟨w.heap.size, 0, none⟩) m m)).heap.size = w.heap.size by simp] at this
      exact this
    have hO1 := hide (hs1.own hO (by decide))
    have hT1 := hide (hT.kt (hs1.kt rfl))
    have hst1 := hide (hs1.pl hM.st (by decide))
    have hat1 := hide (hs1.pl hM.at' (by decide))
    have hF1 : Hid (∀ d, d ≠ c → f d = .slice none 0 0 ∨ ∃ g F, f d = .slice (some ⟨g, 0, none⟩) m m ∧ Pl w1 g m F ∧ (∀ j, hasW F j = fit ts j d) ∧ g ≠ g2 ∧ g ≠ w.heap.size) := fun d _ => by
      rcases hM.fits d with h | ⟨g, F, h1, h2, h3, h4⟩
      · exact .inl h
      · exact .inr ⟨g, F, h1, hs1.pl h2 (by decide), h3, h4, by have := h2.lt; omega⟩
    have hB1 : Hid (Below B w w1) := by
      rw [hw1]
      exact below_drew1 (((Below.refl _ _).setCell (p := ⟨b, 3 + c.toNat, none⟩) hM.hb _).alloc (by simp; have := hM.hb; omega) _)
    have hlt2 : Hid (g2 < w.heap.size) := hM.at'.lt
    have hlt1 : Hid (g1 < w.heap.size) := hM.st.lt
    have HBB : Hid (B ≤ b ∧ B ≤ g2 ∧ g1 ≠ g2 ∧ ∀ j, hasW S j = stayP ts j) := ⟨hM.hb, hM.h2, hM.ne, hM.stj⟩
    have hBs : Hid (B ≤ w.heap.size) := by have := hM.hb; show _ ≤ _; omega
    generalize hLe : (ones ts).length = L at *
    have HLL := hide hLe
    clear hO hT hM HM hb1 hs1 hLe
    go_enter Try.func33, Try.ntmps33
    go_wp2_with fail
    go_region
    rw [← hw1]
    have hm0' := (unhide hM1).cell0
    have hm2' := (unhide hM1).cell2
    clear hw1 hmk HZ0 hc0 hc2 hcf hfz
    go_wp2_with fail
    go_loopw [30] (fun v30 wr => ∃ (k : Nat) (F : Nat → Wd), k ≤ L ∧ v30 = .int .i64 k ∧ Hid (Fr w.heap.size w1 wr) ∧ Hid (Pl wr w.heap.size m F) ∧ Hid (∀ j, hasW F j = fitTo ts c k j) ∧ Hid (Below B w wr)) (fun v30 _ => L - (intOf v30).toNat)
    case atStart => exact ⟨0, fun _ => 0, Nat.zero_le _, rfl, Fr.refl _ _, hG1, fun j => by simp [hasW, fitTo], hB1⟩
    case round =>
      obtain ⟨k, F, hk, rfl, hFr, hP, hFj, hB⟩ := hrel
      have hsep := hide ((unhide hFr).sep (unhide hG1))
      have hMr := hide ((unhide hsep).mc (unhide hM1) (by decide))
      have hmf : wr.cell? ⟨b, 3 + c.toNat, none⟩ = some (.slice (some ⟨w.heap.size, 0, none⟩) m m) := by
        have := (unhide hMr).cellf c
        simpa using this
      have hbr := (unhide hMr).lt
      by_cases hlt : k < L
      · obtain ⟨t, ht⟩ := unhide hOf k hlt
        obtain ⟨⟨kk, fn⟩, hx⟩ : ∃ x, ys[k]? = some x := ⟨_, List.getElem?_eq_getElem (by rw [(unhide hT1).1, unhide HLL]; exact hlt)⟩
        obtain ⟨hk4, hst, hcl⟩ := (unhide hT1).2 k _ t hx ht
        have hOr := (unhide hsep).own (unhide hO1) (by decide)
        obtain ⟨go', rfl, hgl, hcapn, hcs⟩ := ths_cells hOr (by omega)
        obtain ⟨hd1, hd2⟩ := hcs k _ hx
        have hft := hide (unhide hfit k t ht)
        have hcl2 := hide (hcl.kt ((unhide hsep).kt rfl))
        obtain ⟨id, cp, hf, heg, hcall⟩ := hcl.kt ((unhide hsep).kt rfl)
        simp only [] at hd1 hd2 hf
        subst hf
        have hstT := hide (run_storeAt_new (P := Try.prog) wr 67 #[.int .u8 0, .nilFunc] #[.int .u8 (kk : Int), .func (.func id) #[] cp] (by rw [hi]; simp [hi1]) rfl (by simp [Value.oneCell']))
        have hW0 := hide ((Below.refl wr.heap.size wr).alloc (Nat.le_refl _) (.cells #[.int .u8 (kk : Int), .func (.func id) #[] cp] 67))
        have HC := hide (hcall (wr.alloc (.cells #[.int .u8 (kk : Int), .func (.func id) #[] cp] 67)) c (Kt.of (unhide hW0)))
        obtain ⟨pc, hpc⟩ : ∃ pc, pc = t.p c := ⟨_, rfl⟩
        rw [← hpc] at HC hft
        clear hcs hx hcall hcl hcl2 hOr hpc hst ht
        go_wp2_with (refine wpList_store_arr _ rfl _ _ 67 rfl _ rfl _ rfl _ (by exact unhide hstT) ?_)
        refine (unhide HC).mono ?_
        rintro e w2 ⟨rfl, q, hw2⟩
        have hFr2 : Hid (Fr w.heap.size w1 w2) := by rw [hw2]; exact ((unhide hFr).trans (Fr.of _ (unhide hW0))).drewN q
        have hP2 : Hid (Pl w2 w.heap.size m F) := by
          have h1 := (unhide hP).below (unhide hW0)
          rw [hw2]; exact h1
        have hB2 : Hid (Below B w w2) := by
          rw [hw2]
          have h1 := (unhide hB).trans ((unhide hW0).mono (by have := (unhide hB).size; have := unhide hBs; omega))
          exact below_drewN h1 (by have := h1.size; have := unhide hBs; omega) q
        have hmf2 : w2.cell? ⟨b, 3 + c.toNat, none⟩ = some (.slice (some ⟨w.heap.size, 0, none⟩) m m) := by
          have := ((unhide hFr2).sep (unhide hG1)).mc (unhide hM1) (by decide)
          have := this.cellf c
          simpa using this
        clear hw2 HC hstT hW0 hFr hP hB hd1 hd2 hmf hMr hsep
        cases hpc : pc
        · rw [hpc] at hft
          have hFj2 : Hid (∀ j, hasW F j = fitTo ts c (k + 1) j) := fun j => by rw [fitTo_no _ _ _ _ (unhide hft)]; exact unhide hFj j
          clear hFj hft
          go_wp2_with fail
          go_roundw
          case rel => exact ⟨k + 1, F, by omega, by go_num, hFr2, hP2, hFj2, hB2⟩
          case measure => simp [intOf]; omega
        · rw [hpc] at hft
          have HA := hide (add_any w.heap.size m k F w2 (unhide hP2) (by omega) hm)
          go_wp2_with fail
          refine (unhide HA).mono ?_
          rintro e w5 ⟨rfl, x, hw5, hP5⟩
          have hFr5 : Hid (Fr w.heap.size w1 w5) := by rw [hw5]; exact ((unhide hFr2).trans (Fr.set _ _ _ _)).drew
          have hB5 : Hid (Below B w w5) := by rw [hw5]; exact below_drew1 ((unhide hB2).setCell (p := ⟨w.heap.size, k / 64, none⟩) (unhide hBs) _)
          have hP5' := hide hP5
          have hFj2 : Hid (∀ j, hasW (addW F k) j = fitTo ts c (k + 1) j) := fun j => by rw [hasW_add, fitTo_yes _ _ _ _ (unhide hft), unhide hFj]
          clear hw5 hP5 hFj hft HA hFr2 hP2 hB2 hmf2
          go_wp2_with fail
          go_roundw
          case rel => exact ⟨k + 1, addW F k, by omega, by go_num, hFr5, hP5', hFj2, hB5⟩
          case measure => simp [intOf]; omega
      · have HR : Hid (FitR w wr B b ts m (.slice ao L co) g1 g2 S A c (.returned (.slice (some ⟨w.heap.size, 0, none⟩) m m))) := by
          have hF2 : ∀ j, hasW F j = fit ts j c := fun j => by rw [unhide hFj]; exact fitTo_end _ _ _ _ (by rw [unhide HLL]; omega)
          obtain ⟨e1, e2, e3, e4⟩ := unhide HBB
          refine ⟨_, w.heap.size, F, rfl, ⟨unhide hMr, ⟨ys, B', by rw [unhide HLL]; exact (unhide hsep).own (unhide hO1) (by decide), (unhide hT1).kt ((unhide hsep).kt rfl)⟩, (unhide hFr).keep (unhide hst1) (by have := unhide hlt1; omega), e4, (unhide hFr).keep (unhide hat1) (by have := unhide hlt2; omega), fun d => ?_, e3, e1, e2⟩, unhide hP, hF2, by have := unhide hlt2; omega, unhide hB⟩
          by_cases hd : d = c
          · subst hd
            exact .inr ⟨w.heap.size, F, by simp, unhide hP, hF2, by have := unhide hlt2; omega⟩
          · rcases unhide hF1 d hd with h | ⟨g, F', h1, h2, h3, h4, h5⟩
            · exact .inl (by simp [hd, h])
            · exact .inr ⟨g, F', by simp [hd, h1], (unhide hFr).keep h2 h5, h3, h4⟩
        clear hFr hP hFj hB hsep hMr
        go_wp2_with fail
        go_ret
        exact unhide HR
  · rw [hf] at hcf
    have HR : Hid (FitR w w B b ts m o g1 g2 S A c (.returned (.slice (some ⟨g, 0, none⟩) m m))) := ⟨f, g, F, rfl, unhide HM, hPF, hFj, hne, Below.refl _ _⟩
    clear hM hf hPF hFj hne HM
    go_enter Try.func33, Try.ntmps33
    go_wp2_with fail
    go_ret
    exact unhide HR
end Go.Proofs.Ytelijbnamiefcaa.Gl
