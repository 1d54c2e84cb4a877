/- The law OptsWords's walk. -/
import Derived.Test.YtjnlpllibpmclaaOnto
namespace Go.Proofs.Ytjnlpllibpmclaa.Pa
open Go.RowKit

def alpha : ByteArray := { data := #[97, 98, 99, 100, 101, 102, 103, 104, 105, 106, 107, 108, 109, 110, 111, 112, 113, 114, 115, 116, 117, 118, 119, 120, 121, 122] }
theorem alpha_size : alpha.size = 26 := rfl
theorem alpha_at (i : Nat) (h : i < alpha.size) : 97 ≤ (alpha[i]).toNat ∧ (alpha[i]).toNat ≤ 122 := by
  have hd : ∀ i : Fin 26, 97 ≤ (alpha.data.toList[i.1]'(by have := i.2; exact this)).toNat ∧ (alpha.data.toList[i.1]'(by have := i.2; exact this)).toNat ≤ 122 := by decide +kernel
  exact hd ⟨i, h⟩
def zK : Int → Int := (rd alpha.data.toList (fun _ => 0)).getD (fun _ => 0)
theorem rd_z : rd alpha.data.toList (fun _ => 0) = some zK := by
  unfold zK
  have : (rd alpha.data.toList (fun _ => 0)).isSome = true := by decide +kernel
  cases h : rd alpha.data.toList (fun _ => 0) with
  | none => rw [h] at this; cases this
  | some K => rfl
theorem zK_at (c : UInt8) (h : 97 ≤ c.toNat ∧ c.toNat ≤ 122) : zK (c.toNat : Int) = 1 := by
  have hd : ∀ i : Fin 26, zK ((97 + i.1 : Nat) : Int) = 1 := by decide +kernel
  have := hd ⟨c.toNat - 97, by omega⟩
  rw [show (97 + (c.toNat - 97) : Nat) = c.toNat from by omega] at this
  exact this

def flagsL (cs : List UInt8) : Fl := cs.map fun c => ((c.toNat : Int), ByteArray.empty)
def manyL (cs : List UInt8) : List ByteArray := cs.map fun c => ({ data := #[45] } : ByteArray) ++ { data := #[c] }
theorem flagsL_snoc (cs : List UInt8) (c : UInt8) : flagsL (cs ++ [c]) = flagsL cs ++ [((c.toNat : Int), ByteArray.empty)] := by simp [flagsL]
theorem manyL_snoc (cs : List UInt8) (c : UInt8) : manyL (cs ++ [c]) = manyL cs ++ [({ data := #[45] } : ByteArray) ++ { data := #[c] }] := by simp [manyL]
theorem cat_list (a b : ByteArray) : (a ++ b).data.toList = a.data.toList ++ b.data.toList := by simp
theorem size_len (s : ByteArray) : s.data.toList.length = s.size := rfl
theorem word_list (c : UInt8) : (({ data := #[45] } : ByteArray) ++ { data := #[c] }).data.toList = [45, c] := by rw [cat_list]; rfl

theorem lets_z (nx : Option ByteArray) (cs : List UInt8) (f : Fl) (h : ∀ c ∈ cs, 97 ≤ c.toNat ∧ c.toNat ≤ 122) : lets zK nx cs f = some (f ++ flagsL cs, false) := by
  induction cs generalizing f with
  | nil => simp [lets, flagsL]
  | cons c cs ih =>
    simp only [lets, zK_at c (h c (by simp)), if_true]
    rw [ih _ (fun x hx => h x (by simp [hx]))]
    simp [flagsL]
def xW : ByteArray := { data := #[120] }
theorem words_x (f : Fl) : words zK [xW] f = some (f, [xW]) := by
  rw [words_cons, if_neg (by decide), if_neg (by decide)]
theorem words_many (cs : List UInt8) (f : Fl) (h : ∀ c ∈ cs, 97 ≤ c.toNat ∧ c.toNat ≤ 122) : words zK (manyL cs ++ [xW]) f = some (f ++ flagsL cs, [xW]) := by
  induction cs generalizing f with
  | nil => simpa [manyL, flagsL] using words_x f
  | cons c cs ih =>
    have hc := h c (by simp)
    have e : manyL (c :: cs) ++ [xW] = (({ data := #[45] } : ByteArray) ++ { data := #[c] }) :: (manyL cs ++ [xW]) := by simp [manyL]
    rw [e, words_cons, word_list, if_neg (by intro hh; simp at hh; rw [hh] at hc; exact absurd hc.1 (by decide)), if_pos (by simp [isOpt])]
    rw [List.drop_succ_cons, List.drop_zero, lets_z _ [c] f (by simpa using hc)]
    show words zK (manyL cs ++ [xW]) (f ++ flagsL [c]) = _
    rw [ih _ (fun x hx => h x (by simp [hx]))]
    simp [flagsL]
theorem parse_many (cs : List UInt8) (hl : cs.length ≤ 200) (h : ∀ c ∈ cs, 97 ≤ c.toNat ∧ c.toNat ≤ 122) : parse alpha (manyL cs ++ [xW]) = (flagsL cs, [xW], 0) := by
  refine parse_ok rd_z (by simp [manyL]; omega) ?_
  simpa using words_many cs [] h
theorem parse_one (one : ByteArray) (cs : List UInt8) (hl : 0 < cs.length) (ho : one.data.toList = 45 :: cs) (h : ∀ c ∈ cs, 97 ≤ c.toNat ∧ c.toNat ≤ 122) : parse alpha [one, xW] = (flagsL cs, [xW], 0) := by
  refine parse_ok rd_z (by simp) ?_
  cases cs with
  | nil => simp at hl
  | cons c cs =>
    have hc := h c (by simp)
    rw [words_cons, ho, if_neg (by intro hh; simp at hh; rw [hh.1] at hc; exact absurd hc.1 (by decide)), if_pos (by simp [isOpt])]
    rw [List.drop_succ_cons, List.drop_zero, lets_z _ _ _ h]
    show words zK [xW] ([] ++ flagsL (c :: cs)) = _
    simpa using words_x (flagsL (c :: cs))

theorem own_ne {w : World} {b1 b2 : Nat} {e1 e2 : TypeId} {s1 s2 n1 n2 : Nat} {v1 v2 : Value} {x1 x2 : List Value} (h1 : w.ownsRow b1 e1 s1 v1 n1 x1) (h2 : w.ownsRow b2 e2 s2 v2 n2 x2) (he : e1 ≠ e2) : v1.ownBlock = none ∨ v1.ownBlock ≠ v2.ownBlock := by
  rcases h1.2 with ⟨rfl, _⟩ | ⟨g1, c1, u1, rfl, _, hg1, _⟩
  · exact .inl rfl
  · right
    rcases h2.2 with ⟨rfl, _⟩ | ⟨g2, c2, u2, rfl, _, hg2, _⟩
    · simp [Value.ownBlock]
    · intro e
      simp [Value.ownBlock] at e
      subst e
      rw [hg1] at hg2
      simp at hg2
      exact he hg2.2
theorem fx_own_n {w : World} {base n : Nat} {v : Value} {fl : Fl} {e : TypeId} (h : w.ownsRow base e 2 v n (fcl fl)) (hl : fl.length = n) : ∃ a cap, v = .slice a n cap ∧ Fx w a n fl := by
  subst hl; exact fx_of_owns h
theorem tx_own_n {w : World} {base n : Nat} {v : Value} {ss : List ByteArray} {e : TypeId} (h : w.ownsRow base e 1 v n (ss.map Value.string)) (hl : ss.length = n) : ∃ a cap, v = .slice a n cap ∧ Tx w a n cap ss := by
  subst hl; exact tx_of_owns h
theorem conv_one (c8 : UInt8) : ∀ (W : World) (g : Nat), g = W.heap.size → (convert 33 9 (.slice (some ⟨g, 0, none⟩) 1 1)).run Try.prog (W.alloc (.cells #[.int .u8 (c8.toNat : Int)] 5)) = .ok (.string { data := #[c8] }) (W.alloc (.cells #[.int .u8 (c8.toNat : Int)] 5)) := by
  intro W g hg
  subst hg
  refine run_convert_bytes_back (P := Try.prog) _ 33 9 5 ⟨W.heap.size, 0, none⟩ 1 [c8] Try.underlying33 Try.underlying5 Try.underlying9 ?_
  intro j hj
  match j, hj with
  | 0, _ => simp [Addr.add]
theorem one_new (w : World) (x : Value) (e : TypeId) : ∀ j u, [x][j]? = some u → (w.alloc (.cells #[x] e)).cell? ((⟨w.heap.size, 0, none⟩ : Addr).add j) = some u := by
  intro j u hj
  match j, hj with
  | 0, hj => simp at hj; subst hj; simp [Addr.add]
theorem one_new_at (w : World) (g : Nat) (hg : g = w.heap.size) (x : Value) (e : TypeId) : ∀ j u, [x][j]? = some u → (w.alloc (.cells #[x] e)).cell? ((⟨g, 0, none⟩ : Addr).add j) = some u := by
  subst hg; exact one_new w x e
theorem pair_new_at (w : World) (g : Nat) (hg : g = w.heap.size) (x y : Value) (e : TypeId) : ∀ j u, [x, y][j]? = some u → (w.alloc (.cells #[x, y] e)).cell? ((⟨g, 0, none⟩ : Addr).add j) = some u := by
  subst hg; exact pair_new w x y e
theorem str_one (s : ByteArray) : ∀ u ∈ [Value.string s], u.oneCell' = true := by intro u hu; simp at hu; subst hu; rfl

theorem own_below {w w' : World} {base : Nat} {e : TypeId} {size : Nat} {v : Value} {n : Nat} {xs : List Value} (h : w.ownsRow base e size v n xs) (hb : Below w.heap.size w w') : w'.ownsRow base e size v n xs :=
  h.kept (row := none) ⟨hb.os, hb.tape, hb.output, hb.size, fun k hk _ => hb.block k hk⟩ (by cases v.ownBlock <;> simp)
theorem parse_isn {which : ByteArray} {ss : List ByteArray} {fl : Fl} {rest : List ByteArray} {er : Int} (lf lr : Nat) (hp : parse which ss = (fl, rest, er)) (hlf : fl.length = lf) (hlr : rest.length = lr) (a : Option Addr) (n cap : Nat) (w : World) (hT : Tx w a n cap ss) (hs : which.size ≤ 4611686018427387900) (hn : n ≤ 4611686018427387900)
    (hss : ∀ s ∈ ss, s.size ≤ maxLen) (htot : (∀ s, ss.head? = some s → isOpt s.data.toList = true) → tot ss ≤ 4194304) :
    Calls Try.prog 12 #[.string which, .slice a n cap] w fun e w' => (∃ af cf at' ct, e = .returned (.tuple #[.slice af lf cf, .slice at' lr ct, .int .i64 er]) ∧ Fx w' af lf fl ∧ Tx w' at' lr ct rest) ∧ Below w.heap.size w w' := by
  subst hlf hlr
  exact parse_is hp a n cap w hT hs hn hss htot
theorem parse_own {which : ByteArray} {ss : List ByteArray} {fl : Fl} {rest : List ByteArray} {er : Int} (lf lr : Nat) (hp : parse which ss = (fl, rest, er)) (hlf : fl.length = lf) (hlr : rest.length = lr) (a : Option Addr) (n cap : Nat) (w : World) (hT : Tx w a n cap ss) (hs : which.size ≤ 4611686018427387900) (hn : n ≤ 4611686018427387900)
    (hss : ∀ s ∈ ss, s.size ≤ maxLen) (htot : (∀ s, ss.head? = some s → isOpt s.data.toList = true) → tot ss ≤ 4194304) :
    Calls Try.prog 12 #[.string which, .slice a n cap] w fun e w' => (∃ vf vt, e = .returned (.tuple #[vf, vt, .int .i64 er]) ∧ w'.ownsRow w.heap.size 35 2 vf lf (fcl fl) ∧ w'.ownsRow w.heap.size 9 1 vt lr (rest.map Value.string)) ∧ Below w.heap.size w w' := by
  subst hlf hlr
  refine (parse_any which a n cap ss w hT hs hn hss htot).mono fun e w' ⟨vf, vt, he, hf, ht, hb, _⟩ => ?_
  rw [hp] at he hf ht
  exact ⟨⟨vf, vt, he, hf, ht⟩, hb⟩
theorem tot_many (cs : List UInt8) : tot (manyL cs) = 2 * cs.length := by
  induction cs with
  | nil => rfl
  | cons c cs ih =>
    have e : manyL (c :: cs) = (({ data := #[45] } : ByteArray) ++ { data := #[c] }) :: manyL cs := rfl
    have e2 : (({ data := #[45] } : ByteArray) ++ { data := #[c] }).size = 2 := by rw [← size_len, word_list]; rfl
    rw [e]
    simp only [tot, e2, ih, List.length_cons]
    omega

set_option maxHeartbeats 2000000 in
set_option maxRecDepth 100000 in
theorem words_walk (b off n cap : Nat) (Z : Nat → Int) (w : World) (hn : n ≤ 200) (hp : 0 < n) (hb : b < w.heap.size) (hc : ∀ i, i < n → w.cell? ⟨b, off + i, none⟩ = some (.int .u8 (Z i))) (hZ : ∀ i, i < n → 0 ≤ Z i ∧ Z i ≤ 255) :
    Calls Try.prog 4 #[.slice (some ⟨b, off, none⟩) n cap] w fun e w' => e = .returned (.bool true) ∧ Below w.heap.size w w' := by
  obtain ⟨i0, hi, hi0, hi1, hi2⟩ := info_parts Try.infoFlag
  obtain ⟨i1, hj, hy0, hy1, hy2⟩ := info_parts Try.infoStr
  have h1 : ¬ 200 < (n : Int) := by omega
  have h2 : ((n : Int) == 0) = false := by simp; omega
  go_enter Try.func4, Try.ntmps4
  go_wp2_with fail
  refine (alive_any _).mono ?_
  rintro e w1 ⟨rfl, hb1⟩
  go_wp2_with fail
  go_loopw [4, 5, 6, 7] (fun s4 s5 s6 s7 wr => ∃ (k : Nat) (one : ByteArray) (cs : List UInt8), k ≤ n ∧ s7 = .int .i64 k ∧ s4 = .string one ∧ one.size ≤ k + 1 ∧ Hid (cs.length = k ∧ one.data.toList = 45 :: cs ∧ ∀ c ∈ cs, 97 ≤ c.toNat ∧ c.toNat ≤ 122) ∧
      Hid (wr.ownsRow w1.heap.size 9 1 s5 k ((manyL cs).map Value.string)) ∧ Hid (wr.ownsRow w1.heap.size 35 2 s6 k (fcl (flagsL cs))) ∧ Below w1.heap.size w1 wr) (fun _ _ _ s7 _ => n - (intOf s7).toNat)
  case atStart => exact ⟨0, _, [], Nat.zero_le _, rfl, rfl, by decide, ⟨rfl, rfl, by simp⟩, World.ownsRow_nil _ _ _ _, World.ownsRow_nil _ _ _ _, Below.refl _ _⟩
  case round =>
    obtain ⟨k, one, cs, hk, rfl, rfl, hos, hcs, hM, hF, hnx⟩ := hrel
    have hsz := hnx.size
    by_cases hlt : k < n
    · have hcx : wr.cell? ⟨b, off + k, none⟩ = some (.int .u8 (Z k)) := (hnx.cell (by have := hb1.size; exact Nat.lt_of_lt_of_le hb this)).trans ((hb1.cell hb).trans (hc k hlt))
      obtain ⟨z1, z2⟩ := hZ k hlt
      have z3 : 0 ≤ Z k % 26 := by omega
      have z4 : Z k % 26 < 26 := by omega
      have hix : (Z k % 26).toNat < alpha.size := by rw [alpha_size]; omega
      have hr := alpha_at (Z k % 26).toNat hix
      have hcv := conv_one
      have HCS : Hid ((cs ++ [(alpha[(Z k % 26).toNat]'hix)]).length = k + 1 ∧ (one ++ { data := #[(alpha[(Z k % 26).toNat]'hix)] } : ByteArray).data.toList = 45 :: (cs ++ [(alpha[(Z k % 26).toNat]'hix)]) ∧ ∀ c ∈ cs ++ [(alpha[(Z k % 26).toNat]'hix)], 97 ≤ c.toNat ∧ c.toNat ≤ 122) := by
        obtain ⟨g1, g2, g3⟩ := unhide hcs
        refine ⟨by simp [g1], by rw [cat_list, g2]; rfl, fun c hc => ?_⟩
        rcases List.mem_append.1 hc with h | h
        · exact g3 c h
        · simp at h; subst h; exact hr
      have hos2 : Hid ((one ++ { data := #[(alpha[(Z k % 26).toNat]'hix)] } : ByteArray).size ≤ k + 1 + 1) := by
        show _ ≤ _
        rw [← size_len, (unhide HCS).2.1, List.length_cons, (unhide HCS).1]; omega
      clear hr
      go_wp2_with (first
        | (at_builtin; refine wpList_append_own _ rfl (.tmp 46) (.tmp 51) 22 rfl w1.heap.size 9 i1 _ 1 16 Try.underlying22 hj hy0 hy1 hy2 rfl (by decide) u5 _ _ rfl ((((unhide hM).alloc _).alloc _).alloc _) ⟨_, 0, none⟩ 1 1 [.string ({ data := #[45] } ++ { data := #[(alpha[(Z k % 26).toNat]'hix)] })] rfl rfl (by exact one_new_at _ _ (by simp) _ _) (str_one _) (by unfold maxLen; omega) (by omega) (by simp; omega) ?_; intro va w5 hown5 hg5 hnil5; have hb5 : Below w1.heap.size w1 w5 := (((hnx.alloc hsz _).alloc (by simp; omega) _).alloc (by simp; omega) _).grown hg5 (by simp; omega) (fun j hj => ((unhide hM).lt j hj).1); have hF5 := hide (((((unhide hF).alloc _).alloc _).alloc _).kept hg5 (own_ne (unhide hF) (unhide hM) (by decide))); have HO5 := hide hown5; clear hown5 hg5 hnil5)
        | (at_builtin; refine wpList_append_own _ rfl (.tmp 53) (.tmp 56) 26 rfl w1.heap.size 35 i0 _ 2 24 Try.underlying26 hi hi0 hi1 hi2 rfl (by decide) u6 _ _ rfl ((unhide hF5).alloc _) ⟨_, 0, none⟩ 1 1 [.int .u8 ((alpha[(Z k % 26).toNat]'hix).toNat : Int), .string ByteArray.empty] rfl rfl (by exact pair_new_at _ _ (by simp) _ _ _) (pair_one _ _ _) (by unfold maxLen; omega) (by omega) (by have := hb5.size; simp; omega) ?_; intro vb w6 hown6 hg6 hnil6; have hb6 : Below w1.heap.size w1 w6 := (hb5.alloc hb5.size _).grown hg6 (by have := hb5.size; simp; omega) (fun j hj => ((unhide hF5).lt j hj).1); have hM6 := hide (((unhide HO5).alloc _).kept hg6 (own_ne (unhide HO5) (unhide hF5) (by decide))); have HO6 := hide hown6; clear hown6 hg6 hnil6))
      have eM : Hid (w6.ownsRow w1.heap.size 9 1 va (k + 1) ((manyL (cs ++ [(alpha[(Z k % 26).toNat]'hix)])).map Value.string)) := by
        rw [manyL_snoc, List.map_append]; exact unhide hM6
      have eF : Hid (w6.ownsRow w1.heap.size 35 2 vb (k + 1) (fcl (flagsL (cs ++ [(alpha[(Z k % 26).toNat]'hix)])))) := by
        rw [flagsL_snoc, fcl_snoc]; exact unhide HO6
      clear hM6 HO6 HO5 hF5 hM hF hcs hb5
      go_roundw
      case rel => exact ⟨k + 1, _, cs ++ [(alpha[(Z k % 26).toNat]'hix)], by omega, by go_num, rfl, unhide hos2, HCS, eM, eF, hb6⟩
      case measure => simp [intOf]; omega
    · obtain rfl : k = n := by omega
      obtain ⟨g1, g2, g3⟩ := unhide hcs
      have hp1 := hide (parse_one one cs (by omega) g2 g3)
      have hp2 := hide (parse_many cs (by omega) g3)
      have hfl : Hid ((flagsL cs).length = k) := by simp [Hid, flagsL, g1]
      have hml : Hid ((manyL cs).length = k) := by simp [Hid, manyL, g1]
      have hmx : Hid ((manyL cs ++ [xW]).length = k + 1) := by simp [Hid, manyL, g1]
      have ht1 : Hid (tot [one, xW] ≤ 4194304) := by
        show _ ≤ _
        have : tot [one, xW] = one.size + 1 := rfl
        omega
      have ht2 : Hid (tot (manyL cs ++ [xW]) ≤ 4194304) := by
        show _ ≤ _
        have : tot [xW] = 1 := rfl
        rw [tot_append, tot_many, g1, this]; omega
      clear g1 g2 g3 hcs
      go_wp2_with fail
      refine (parse_own k 1 (unhide hp1) (unhide hfl) rfl _ _ _ _ (by exact tx_lit _ [one, xW] _) (by decide) (by decide) (small_mem _ (unhide ht1)) (fun _ => unhide ht1)).mono ?_
      rintro e w2 ⟨⟨vf, vt, rfl, hF1, hT1⟩, hb⟩
      have hb2 : Below wr.heap.size wr w2 := ((Below.refl _ _).alloc (Nat.le_refl _) _).trans (hb.mono (by simp))
      have hB2 : Below w1.heap.size w1 w2 := hnx.trans (hb2.mono hsz)
      have HM2 := hide (own_below (unhide hM) hb2)
      have HF2 := hide (own_below (unhide hF) hb2)
      have HF1 := hide hF1
      have HT1 := hide hT1
      have hlm : Hid (vt.ownBlock = none ∨ vt.ownBlock ≠ u5.ownBlock) := by
        cases hv : vt.ownBlock with
        | none => exact .inl rfl
        | some x =>
          refine .inr fun e => ?_
          have e1 := (hT1.lt x hv).1
          have e2 := ((unhide hM).lt x e.symm).2
          simp at e1
          omega
      have hs2 := hB2.size
      clear hb hF1 hT1 hM hF hb2 hnx
      go_wp2_with (at_builtin; refine wpList_append_own _ rfl (.tmp 68) (.tmp 69) 22 rfl w1.heap.size 9 i1 _ 1 16 Try.underlying22 hj hy0 hy1 hy2 rfl (by decide) u5 _ _ rfl ((unhide HM2).alloc _) ⟨_, 0, none⟩ 1 1 [.string { data := #[120] }] rfl rfl (by exact one_new_at _ _ (by simp) _ _) (str_one _) (by unfold maxLen; omega) (by omega) (by simp; omega) ?_; intro va w5 hown5 hg5 hnil5; have hB5 : Below w1.heap.size w1 w5 := (hB2.alloc hs2 _).grown hg5 (by simp; omega) (fun j hj => ((unhide HM2).lt j hj).1); have hf5 := ((unhide HF1).alloc _).kept hg5 (own_ne (unhide HF1) (unhide HM2) (by decide)); have hw5 := ((unhide HF2).alloc _).kept hg5 (own_ne (unhide HF2) (unhide HM2) (by decide)); have ht5 := ((unhide HT1).alloc _).kept hg5 (unhide hlm); have hown6 : w5.ownsRow w1.heap.size 9 1 va (k + 1) ((manyL cs ++ [xW]).map Value.string) := (by rw [List.map_append]; exact hown5); obtain ⟨am, cm, rfl, hTm⟩ := tx_own_n hown6 (unhide hmx); obtain ⟨af, cf, rfl, hFf⟩ := fx_own_n hf5 (unhide hfl); obtain ⟨aw, cw, rfl, hFw⟩ := fx_own_n hw5 (unhide hfl); obtain ⟨at', ct, rfl, hTt⟩ := tx_own_n (n := 1) (ss := [xW]) ht5 rfl; have HTM := hide hTm; have HFF := hide hFf; have HFW := hide hFw; have HTT := hide hTt; clear hown5 hown6 hg5 hnil5 hTm hf5 hw5 ht5 hFf hFw hTt hlm HM2 HF2 HF1 HT1 hB2 hs2)
      refine (parse_isn k 1 (unhide hp2) (unhide hfl) rfl _ _ _ _ (unhide HTM) (by decide) (by omega) (small_mem _ (unhide ht2)) (fun _ => unhide ht2)).mono ?_
      rintro e w6 ⟨⟨ag, cg, ah, ch, rfl, hF6, hT6⟩, hb6⟩
      have hB6 : Below w1.heap.size w1 w6 := hB5.trans (hb6.mono hB5.size)
      have HFF6 := hide ((unhide HFF).below hb6)
      have HFW6 := hide ((unhide HFW).below hb6)
      have HTT6 := hide ((unhide HTT).below hb6)
      have HF6 := hide hF6
      have HT6 := hide hT6
      clear hF6 hT6 hb6 HFF HFW HTT HTM hB5
      go_wp2_with fail
      refine (sameFlags_any _ _ k _ _ _ _ (by omega) (unhide HFF6) (unhide HFW6)).mono ?_
      rintro e w7 ⟨rfl, hb7⟩
      have hB7 : Below w1.heap.size w1 w7 := hB6.trans (hb7.mono hB6.size)
      have HFW7 := hide ((unhide HFW6).below hb7)
      have HTT7 := hide ((unhide HTT6).below hb7)
      have HF7 := hide ((unhide HF6).below hb7)
      have HT7 := hide ((unhide HT6).below hb7)
      clear hb7 HFF6 HFW6 HTT6 HF6 HT6 hB6
      go_wp2_with fail
      refine (sameFlags_any _ _ k _ _ _ _ (by omega) (unhide HF7) (unhide HFW7)).mono ?_
      rintro e w8 ⟨rfl, hb8⟩
      have hB8 : Below w1.heap.size w1 w8 := hB7.trans (hb8.mono hB7.size)
      have HTT8 := hide ((unhide HTT7).below hb8)
      have HT8 := hide ((unhide HT7).below hb8)
      clear hb8 HFW7 HTT7 HF7 HT7 hB7
      have hal : ∀ o, Below w8.heap.size w8 (w8.alloc o) := fun o => (Below.refl _ _).alloc (Nat.le_refl _) o
      go_wp2_with fail
      refine (sameTexts_any _ _ 1 _ _ ct 1 [xW] _ (by decide) ((unhide HTT8).below (hal _)) (by exact tx_lit _ [xW] _)).mono ?_
      rintro e w9 ⟨rfl, hb⟩
      have hb9 : Below w8.heap.size w8 w9 := (hal _).trans (hb.mono (by simp))
      have hB9 : Below w1.heap.size w1 w9 := hB8.trans (hb9.mono hB8.size)
      have HTT9 := hide ((unhide HTT8).below hb9)
      have HT9 := hide ((unhide HT8).below hb9)
      clear hb hb9 hal HTT8 HT8 hB8
      go_wp2_with fail
      refine (sameTexts_any _ _ 1 _ _ ch ct [xW] _ (by decide) (unhide HT9) (unhide HTT9)).mono ?_
      rintro e w10 ⟨rfl, hb10⟩
      have hB10 : Below w.heap.size w w10 := hb1.trans ((hB9.trans (hb10.mono hB9.size)).mono hb1.size)
      clear hb10 HTT9 HT9 hB9
      go_wp2_with fail
      go_ret
      exact ⟨rfl, hB10⟩

set_option maxHeartbeats 1000000 in
theorem words_edge (a : Option Addr) (n cap : Nat) (w : World) (hz : n ≤ 9223372036854775807) (h : n = 0 ∨ 200 < n) :
    Calls Try.prog 4 #[.slice a n cap] w fun e w' => e = .returned (.bool true) ∧ Below w.heap.size w w' := by
  rcases h with rfl | h
  · go_enter Try.func4, Try.ntmps4
    go_wp2_with fail
    refine (alive_any _).mono ?_
    rintro e w1 ⟨rfl, hb1⟩
    go_wp2_with fail
    refine (alive_any _).mono ?_
    rintro e w2 ⟨rfl, hb2⟩
    go_wp2_with fail
    go_ret
    exact ⟨rfl, hb1.trans (hb2.mono hb1.size)⟩
  · have h1 : 200 < (n : Int) := by omega
    go_enter Try.func4, Try.ntmps4
    go_wp2_with fail
    refine (alive_any _).mono ?_
    rintro e w1 ⟨rfl, hb1⟩
    go_wp2_with fail
    refine (alive_any _).mono ?_
    rintro e w2 ⟨rfl, hb2⟩
    go_wp2_with fail
    go_ret
    exact ⟨rfl, hb1.trans (hb2.mono hb1.size)⟩

/-- a list of integers that came in: it is nil, or it leads to a row of 'cap' cells -/
def IsRow (k : IntKind) (w : World) (a : Option Addr) (len cap : Nat) (zs : List Int) : Prop :=
  (a = none ∧ len = 0 ∧ cap = 0 ∧ zs = []) ∨
  ∃ x, a = some x ∧ len ≤ cap ∧ cap ≤ maxLen ∧ zs.length = cap ∧ (∀ i, i < zs.length → w.cell? (x.add i) = some (.int k (zs.getD i 0))) ∧ ∀ n ∈ zs, (Lit.int k n).wf = true

theorem words_any (a : Option Addr) (n cap : Nat) (zs : List Int) (w : World) (h : IsRow .u8 w a n cap zs) :
    Calls Try.prog 4 #[.slice a n cap] w fun e w' => e = .returned (.bool true) ∧ Below w.heap.size w w' := by
  rcases h with ⟨rfl, rfl, rfl, rfl⟩ | ⟨x, rfl, hl, hm, hz, hc, hwf⟩
  · exact words_edge none 0 0 w (by omega) (.inl rfl)
  · unfold maxLen at hm
    by_cases h : n = 0 ∨ 200 < n
    · exact words_edge _ n cap w (by omega) h
    · obtain ⟨b, off, spot⟩ := x
      have hc0 := hc 0 (by omega)
      have hspot : spot = none := by simpa [Addr.add] using World.cell?_spot hc0
      subst hspot
      refine words_walk b off n cap (fun i => zs.getD i 0) w (by omega) (by omega) ?_ (fun i hi => ?_) (fun i hi => ?_)
      · simpa [Addr.add] using World.block_lt_of_cell? w _ hc0
      · have := hc i (by omega)
        rw [add_none] at this
        exact this
      · have hi' : i < zs.length := by omega
        have he : zs.getD i 0 = zs[i] := by simp [List.getD, List.getElem?_eq_getElem hi']
        have hw := hwf zs[i] (List.getElem_mem hi')
        simp [Lit.wf, IntKind.min, IntKind.max, IntKind.signed, IntKind.bits] at hw
        show 0 ≤ zs.getD i 0 ∧ zs.getD i 0 ≤ 255
        rw [he]
        omega
end Go.Proofs.Ytjnlpllibpmclaa.Pa
