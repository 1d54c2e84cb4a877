/- What the document's Key answers. -/
import Derived.Test.YtjfjhpakkflceaaDoorKyRefParts
import Derived.Test.YtjfjhpakkflceaaDoorKyRefJoin
import Derived.Test.YtjfjhpakkflceaaDoorKyIter
import Derived.Laws.IdiomStrings
import Derived.Lib.BufferRead
import Derived.Lib.Builder
namespace Go.Proofs.YtjfjhpakkflceaaDoor.Ky
open Go.RowKit Go.Shelf

attribute [local go_sem] Oper.semAt_some

theorem at_lt {W : World} {x i : Nat} {v : Value} (h : W.cell? ⟨x, i, none⟩ = some v) : x < W.heap.size := by
  by_cases hx : x < W.heap.size
  · exact hx
  · have h2 : W.heap[x]? = none := Array.getElem?_eq_none (by omega)
    simp [World.cell?, h2] at h
/-- a list of texts, to be read -/
def FL (W : World) (v : Value) (F : List Bs) : Prop := ∃ a cap, v = .slice a F.length cap ∧ F.length ≤ cap ∧ cap ≤ 9223372036854775807 ∧ ∀ m x, F[m]? = some x → ∃ g, a = some ⟨g, 0, none⟩ ∧ W.cell? ⟨g, m, none⟩ = some (.string (Ln.bt x))
theorem FL.of_row {W : World} {base : Nat} {v : Value} {F : List Bs} (h : W.ownsRow base 9 1 v F.length (Ln.strs1 F)) : FL W v F := by
  rcases h.2 with ⟨hv, h0⟩ | ⟨g, cap, cur, hv, hb, hg, hc1, hc2, hc3, hc4⟩
  · exact ⟨none, 0, by rw [hv, h0], by omega, by omega, fun m x hx => by rw [List.getElem?_eq_none (by omega)] at hx; cases hx⟩
  · refine ⟨some ⟨g, 0, none⟩, cap, hv, hc1, (by unfold maxLen at hc2; omega), fun m x hx => ⟨g, rfl, ?_⟩⟩
    rw [cell_of_row _ _ _ _ _ _ hg]
    obtain ⟨hi, rfl⟩ := List.getElem?_eq_some_iff.1 hx
    have h1 : (cur.toList.take (F.length * 1))[m]? = some (.string (Ln.bt F[m])) := by rw [hc4]; simp [Ln.strs1, List.getElem?_eq_getElem hi]
    rw [List.getElem?_take_of_lt (by omega)] at h1
    simpa using h1
theorem FL.below {W W' : World} {v : Value} {F : List Bs} (h : FL W v F) (b : Below W.heap.size W W') : FL W' v F := by
  obtain ⟨a, cap, h1, h2, h3, h4⟩ := h
  refine ⟨a, cap, h1, h2, h3, fun m x hx => ?_⟩
  obtain ⟨g, e, hc⟩ := h4 m x hx
  exact ⟨g, e, (b.cell (p := ⟨g, m, none⟩) (at_lt hc)).trans hc⟩
/-- string([]byte{c}) -/
theorem one_back (W : World) (c : UInt8) : (convert 80 9 (.slice (some ⟨W.heap.size, 0, none⟩) 1 1)).run Tryd.prog (W.alloc (.cells #[.int .u8 (c.toNat : Int)] 5)) = .ok (.string (Ln.bt [c])) (W.alloc (.cells #[.int .u8 (c.toNat : Int)] 5)) := by
  refine run_convert_bytes_back _ 80 9 5 ⟨W.heap.size, 0, none⟩ 1 [c] Tryd.underlying80 Tryd.underlying5 Tryd.underlying9 ?_
  intro j hj
  simp at hj
  subst hj
  simp [Addr.add]
theorem btw_zero {o : Ord} (h : o.sep = 0) : btw o = [] := by unfold btw; rw [if_pos h]
theorem btw_one {o : Ord} (h : o.sep ≠ 0) : btw o = [o.sep] := by unfold btw; rw [if_neg h]
theorem sep_int (c : UInt8) : c ≠ 0 ↔ ¬ (c.toNat : Int) = 0 := by
  constructor
  · intro h h'; exact h (UInt8.toNat_inj.1 (by rw [show (0 : UInt8).toNat = 0 from rfl]; omega))
  · intro h h'; exact h (by rw [h']; rfl)

set_option maxRecDepth 100000 in
set_option maxHeartbeats 600000 in
theorem rkey_any (o : Ord) (s : ByteArray) (w : World) (hs : s.size ≤ 1073741000) :
    Calls Tryd.prog 73 #[ov o, .string s] w fun e w' => e = .returned (.string (Ln.bt (key o s.data.toList))) ∧ Below w.heap.size w w' := by
  have CK := hide (fun W => rcheck_any o W)
  unfold ov at CK ⊢
  have p0 := hide (OR.new w o)
  have B0 : Hid (Below w.heap.size w (w.alloc (.cells #[.bool o.num, .bool o.fold, .bool o.bls, .bool o.rev, .int .i64 o.fr, .int .i64 o.«to», .int .u8 (o.sep.toNat : Int)] 23))) := (Below.refl _ _).alloc (Nat.le_refl _) _
  cases hok : okO o
  · rw [hok] at CK
    have hk : key o s.data.toList = [] := by unfold key; rw [hok]; rfl
    rw [hk]
    clear hok hk
    go_enter Tryd.func73, Tryd.ntmps73
    go_wp2_with fail
    refine (unhide CK _).mono ?_
    rintro e w1 ⟨rfl, b1⟩
    go_wp2_with fail
    go_ret
    exact ⟨rfl, (unhide B0).trans (b1.mono (unhide B0).size)⟩
  · rw [hok] at CK
    by_cases hfr : o.fr = 0
    · have hk : key o s.data.toList = s.data.toList := by unfold key; rw [hok]; simp [hfr]
      have hs2 : Ln.bt s.data.toList = s := rfl
      rw [hk, hs2]
      have HFR := hide hfr
      clear hok hk hs2 hfr
      go_enter Tryd.func73, Tryd.ntmps73
      go_wp2_with fail
      refine (unhide CK _).mono ?_
      rintro e w1 ⟨rfl, b1⟩
      have p1 := hide ((unhide p0).below b1)
      obtain ⟨d0, d1, d2, d3, d4, d5, d6⟩ := (unhide p1).cells
      have hfr := unhide HFR
      clear p0 p1
      go_wp2_with fail
      go_ret
      exact ⟨rfl, (unhide B0).trans (b1.mono (unhide B0).size)⟩
    · have hpos : 0 < o.fr := by have := hok; unfold okO at this; simp at this; omega
      have hmx : o.fr ≤ 1000 := by have := hok; unfold okO at this; simp at this; omega
      obtain ⟨L, hL1, hL2, hL3, hL4⟩ := key_steps (s := s.data.toList) hok hpos
      rw [hL1]
      obtain ⟨f, hf⟩ : ∃ f : Nat, o.fr = (f : Int) := ⟨o.fr.toNat, by omega⟩
      rw [hf] at hL3 hL4
      have HL2 : Hid ((join (btw o) L).length ≤ s.size) := hL2
      have HL3 := hide hL3
      have HL4 := hide hL4
      have CP := hide (fun W => rparts_any s W hs)
      have CF := hide (fun W => Ln.refFields_any s o.sep.toNat W hs)
      have hFP : Hid (o.sep = 0 → fields o s.data.toList = partsOf s.data.toList) := fun h => by unfold fields; rw [if_pos h]; rfl
      have hFF : Hid (o.sep ≠ 0 → Ln.fieldsL o.sep.toNat s.data.toList = fields o s.data.toList) := fun h => (sep_fields h _).1
      have hf1 : 1 ≤ f := by omega
      have hf2 : f ≤ 1000 := by omega
      have HFR := hide hf
      clear hL1 hL2 hL3 hL4 hok hmx hf hfr hpos
      go_enter Tryd.func73, Tryd.ntmps73
      go_wp2_with fail
      refine (unhide CK _).mono ?_
      rintro e w1 ⟨rfl, b1⟩
      have p1 := hide ((unhide p0).below b1)
      have B1 := hide ((unhide B0).trans (b1.mono (unhide B0).size))
      clear p0 B0 b1 CK
      obtain ⟨d0, d1, d2, d3, d4, d5, d6⟩ := (unhide p1).cells
      rw [unhide HFR] at d4
      have hfr0 : ((f : Int) == 0) = false := by simp; omega
      go_wp2_with fail
      refine (unhide CP _).mono ?_
      rintro e w2 ⟨v2, rfl, O2, b2⟩
      have F2 := hide (FL.of_row O2)
      have p2 := hide ((unhide p1).below b2)
      have B2 := hide ((unhide B1).trans (b2.mono (unhide B1).size))
      clear p1 B1 b2 CP O2 d0 d1 d2 d3 d4 d5 d6
      obtain ⟨d0, d1, d2, d3, d4, d5, d6⟩ := (unhide p2).cells
      obtain ⟨z, hz⟩ : ∃ z, z = decide (o.sep ≠ 0) := ⟨_, rfl⟩
      have hz2 : ((o.sep.toNat : Int) != 0) = z := by rw [hz, Bool.eq_iff_iff]; simp only [bne_iff_ne, decide_eq_true_eq]; exact (sep_int _).symm
      have HZ := hide hz
      clear hz
      obtain ⟨F, hF⟩ : ∃ F, F = fields o s.data.toList := ⟨_, rfl⟩
      have HF := hide hF
      clear hF
      obtain ⟨T, hT⟩ : ∃ T, T = Ln.bt (btw o) := ⟨_, rfl⟩
      have HT := hide hT
      clear hT
      obtain ⟨av, nv, cv, rfl⟩ : ∃ a n c, v2 = .slice a n c := by obtain ⟨a, c, h, _⟩ := unhide F2; exact ⟨_, _, _, h⟩
      go_upto_if 20 with fail
      go_cut [5, 6] (fun v5 v6 wx => v6 = .string T ∧ Hid (FL wx v5 F) ∧ Hid (OR wx w.heap.size o) ∧ Hid (Below w.heap.size w wx))
      case first =>
        have hz := unhide HZ
        clear HZ
        cases z
        · have hs0 : o.sep = 0 := by simpa using hz
          have e1 : T = { data := #[] } := by rw [unhide HT, btw_zero hs0]; rfl
          have e2 : F = partsOf s.data.toList := by rw [unhide HF]; exact unhide hFP hs0
          rw [← e2] at F2
          have E1 := hide e1
          clear hz hs0 e1 e2 HT HF hFP hFF
          go_wp2_with fail
          go_meet
          exact ⟨by rw [unhide E1], F2, p2, B2⟩
        · have hs0 : o.sep ≠ 0 := by simpa using hz
          have e1 : T = Ln.bt [o.sep] := by rw [unhide HT, btw_one hs0]
          have CF2 := hide (unhide CF w2)
          rw [unhide hFF hs0, ← unhide HF] at CF2
          have HCV := hide (fun W => one_back W o.sep)
          rw [← e1] at HCV
          clear hz hs0 e1 HT HF hFP hFF CF
          go_wp2_with fail
          refine (unhide CF2).mono ?_
          rintro e w3 ⟨v3, rfl, O3, b3⟩
          have F3 := hide ((FL.of_row O3).below ((Below.refl _ w3).alloc (Nat.le_refl _) (.cells #[.int .u8 (o.sep.toNat : Int)] 5)))
          have p3 := hide (((unhide p2).below b3).alloc (.cells #[.int .u8 (o.sep.toNat : Int)] 5))
          have B3 := (unhide B2).trans (b3.mono (unhide B2).size)
          have B4 := hide (B3.alloc B3.size (.cells #[.int .u8 (o.sep.toNat : Int)] 5))
          have hcv := unhide HCV w3
          obtain ⟨q0, q1, q2, q3, q4, q5, q6⟩ := ((unhide p2).below b3).cells
          clear HCV b3 B3 O3 F2 p2 B2 d0 d1 d2 d3 d4 d5 d6
          go_wp2_with fail
          go_meet
          exact ⟨rfl, F3, p3, B4⟩
      case rest =>
        obtain ⟨rfl, F5, p5, B5⟩ := hcut
        clear d0 d1 d2 d3 d4 d5 d6 p2 B2 F2 hz2 HZ CF hFP hFF hfr0
        obtain ⟨d0, d1, d2, d3, d4, d5, d6⟩ := (unhide p5).cells
        rw [unhide HFR] at d4
        obtain ⟨a5, cap5, rfl, hc1, hc2, hc3⟩ := unhide F5
        have HC3 := hide hc3
        have hFl : F.length ≤ s.size + 1 := by rw [unhide HF]; exact fields_len _ _
        rw [← unhide HF] at HL3 HL4
        clear hc3 F5 p5 HFR HF
        have H0 : Hid ({ data := #[] } = Ln.bt (join (btw o) (L.take 0))) := by show _ = _; rw [List.take_zero]; rfl
        go_wp2_with fail
        go_loopg [7, 8] L.length (fun g v7 v8 wr => wc = wr ∧ ∃ (k n : Nat) (X : ByteArray), k ≤ L.length ∧ g = L.length - k ∧ v8 = .int .i64 n ∧ Hid (n = f + k) ∧ v7 = .string X ∧ X.size ≤ s.size ∧ Hid (X = Ln.bt (join (btw o) (L.take k))))
        case atStart => exact ⟨rfl, 0, f, { data := #[] }, Nat.zero_le _, rfl, rfl, rfl, rfl, Nat.zero_le _, H0⟩
        case round =>
          obtain ⟨rfl, k, n, X, hk, rfl, rfl, hn, rfl, hX, hXe⟩ := hrel
          clear H0
          have h3 := unhide HL3 k n (by have := unhide hn; omega)
          by_cases hkl : k < L.length
          · obtain ⟨c1, c2⟩ := h3.1 hkl
            obtain ⟨m, hm⟩ : ∃ m : Nat, (n : Int) - 1 = (m : Int) := ⟨n - 1, by have := unhide hn; omega⟩
            have h4 := unhide HL4 k m hkl (by have := unhide hn; omega)
            obtain ⟨x, hx⟩ : ∃ x, L[k]? = some x := ⟨L[k], List.getElem?_eq_getElem hkl⟩
            rw [hx] at h4
            obtain ⟨g5, rfl, hcell⟩ := unhide HC3 m x h4
            have hml : (m : Int) < (F.length : Int) := by omega
            have hstep := join_go (btw o) L k x hx
            rw [← unhide hXe, ← unhide HT] at hstep
            have hsz : (Ln.bt (join (btw o) (L.take (k + 1)))).size ≤ s.size := Nat.le_trans (ln_join (btw o) L (k + 1)) (unhide HL2)
            have hn1 : n + 1 ≤ 1073742000 := by
              have := (List.getElem?_eq_some_iff.1 h4).1
              omega
            generalize Ln.bt x = Y at *
            generalize hR : Ln.bt (join (btw o) (L.take (k + 1))) = R at *
            have HR := hide hR
            have HST := hide hstep
            have hn2 : Hid (n + 1 = f + (k + 1)) := by have := unhide hn; show _ = _; omega
            have hkn : (k = 0 ∧ ¬ (f : Int) < (n : Int)) ∨ (0 < k ∧ (f : Int) < (n : Int)) := by have := unhide hn; omega
            clear hR hstep h3 h4 hx HL3 HL4 HC3 hXe hn HL2 HT
            have hto : ((o.«to» == 0) = true) ∨ ((o.«to» == 0) = false ∧ (n : Int) ≤ o.«to») := by
              by_cases h : o.«to» = 0
              · exact .inl (by simp [h])
              · rcases c2 with c2 | c2
                · exact absurd c2 h
                · exact .inr ⟨by simpa using h, c2⟩
            clear c2
            rcases hkn with ⟨hk0, hkn⟩ | ⟨hk0, hkn⟩
            · obtain rfl : R = X ++ Y := (unhide HST).1 hk0
              have hxy : X.size + Y.size ≤ s.size := by have := hsz; rw [ByteArray.size_append] at this; exact this
              clear HST hk0
              rcases hto with hto | ⟨hto, c3⟩
              all_goals
                go_wp2_with fail
                go_roundg (L.length - (k + 1))
                case measure => omega
                case rel => exact ⟨rfl, k + 1, n + 1, X ++ Y, by omega, rfl, by go_num, hn2, rfl, hsz, (unhide HR).symm⟩
            · obtain rfl : R = X ++ T ++ Y := (unhide HST).2 hk0
              have hxy : X.size + T.size + Y.size ≤ s.size := by have := hsz; rw [ByteArray.size_append, ByteArray.size_append] at this; exact this
              clear HST hk0
              rcases hto with hto | ⟨hto, c3⟩
              all_goals
                go_wp2_with fail
                go_roundg (L.length - (k + 1))
                case measure => omega
                case rel => exact ⟨rfl, k + 1, n + 1, X ++ T ++ Y, by omega, rfl, by go_num, hn2, rfl, hsz, (unhide HR).symm⟩
          · obtain rfl : k = L.length := by omega
            have hXf : X = Ln.bt (join (btw o) L) := by rw [unhide hXe, List.take_length]
            have HXF := hide hXf
            have hto : ¬ (n : Int) ≤ (F.length : Int) ∨ ((n : Int) ≤ (F.length : Int) ∧ (o.«to» == 0) = false ∧ ¬ (n : Int) ≤ o.«to») := by
              by_cases h1 : (n : Int) ≤ (F.length : Int)
              · right
                have h2 : ¬ (o.«to» = 0 ∨ (n : Int) ≤ o.«to») := fun h => hkl (h3.2 ⟨h1, h⟩)
                exact ⟨h1, by simp; omega, by omega⟩
              · exact .inl h1
            clear h3 HL3 HL4 HC3 hXe hn HL2 HT hXf hkl
            rcases hto with c1 | ⟨c1, hto, c3⟩
            all_goals
              go_wp2_with fail
              go_ret
              exact ⟨by rw [← unhide HXF]; rfl, unhide B5⟩
end Go.Proofs.YtjfjhpakkflceaaDoor.Ky
