/- Lines with their numbers: the digits of a number, read again. -/
import Derived.Test.YtpfdjnnnemkoiabDoorCuAlive
import Derived.Test.YtpfdjnnnemkoiabDoorTextsSize
namespace Go.Proofs.YtpfdjnnnemkoiabDoor.Cu
open Go.RowKit Go.Shelf
open Pa (Tx tot)

def dig (c : UInt8) : Bool := decide (48 ≤ c.toNat) && decide (c.toNat ≤ 57)
def nval (l : List UInt8) : Nat := l.foldl (fun v c => v * 10 + (c.toNat - 48)) 0
theorem nval_snoc (l : List UInt8) (c : UInt8) : nval (l ++ [c]) = nval l * 10 + (c.toNat - 48) := by simp [nval]
theorem fold_from (l : List UInt8) (v : Nat) : l.foldl (fun v c => v * 10 + (c.toNat - 48)) v = v * 10 ^ l.length + nval l := by
  induction l generalizing v with
  | nil => simp [nval]
  | cons c l ih =>
    have h1 := ih (v * 10 + (c.toNat - 48))
    have h2 := ih (0 * 10 + (c.toNat - 48))
    simp only [nval, List.foldl_cons, List.length_cons] at *
    rw [h1, h2, Nat.pow_succ, Nat.add_mul]
    simp only [Nat.zero_mul, Nat.zero_add]
    rw [Nat.mul_assoc, Nat.mul_comm 10 (10 ^ l.length), Nat.add_assoc]
theorem nval_append (a b : List UInt8) : nval (a ++ b) = nval a * 10 ^ b.length + nval b := by
  unfold nval
  rw [List.foldl_append, fold_from]
  rfl
theorem nval_take_le (s : List UInt8) (k : Nat) : nval (s.take k) ≤ nval s := by
  have e := nval_append (s.take k) (s.drop k)
  rw [List.take_append_drop] at e
  have : nval (s.take k) * 1 ≤ nval (s.take k) * 10 ^ (s.drop k).length := Nat.mul_le_mul_left _ (Nat.one_le_pow _ _ (by omega))
  omega

theorem ofNat_d (d : Nat) (h : d < 10) : (UInt8.ofNat (48 + d)).toNat = 48 + d := by simp; omega
theorem dg_dig (u j : Nat) : dig (Lib.dg u j) = true := by
  unfold Lib.dg dig
  have h : u / 10 ^ j % 10 < 10 := Nat.mod_lt _ (by omega)
  have e : (UInt8.ofNat (48 + u / 10 ^ j % 10)).toNat = 48 + u / 10 ^ j % 10 := by simp; omega
  rw [e]; simp; omega
theorem dec_small (u : Nat) (h : u < 10) : Lib.decDigits u = [UInt8.ofNat (48 + u)] := by rw [Lib.decDigits, dif_pos h]
theorem dec_big (u : Nat) (h : ¬ u < 10) : Lib.decDigits u = Lib.decDigits (u / 10) ++ [UInt8.ofNat (48 + u % 10)] := by rw [Lib.decDigits, dif_neg h]
theorem decDigits_all (u : Nat) : (Lib.decDigits u).all dig = true := by
  rw [Lib.decDigits_eq, List.all_eq_true]
  intro c hc
  obtain ⟨t, _, rfl⟩ := List.mem_map.1 hc
  exact dg_dig _ _
theorem nval_dec (u : Nat) : nval (Lib.decDigits u) = u := by
  induction u using Nat.strongRecOn with
  | _ u ih =>
    by_cases h : u < 10
    · rw [dec_small u h]; simp only [nval, List.foldl_cons, List.foldl_nil, ofNat_d u h]; omega
    · rw [dec_big u h, nval_snoc, ih (u / 10) (by omega), ofNat_d _ (Nat.mod_lt _ (by omega))]; omega
theorem tot_mem : ∀ {A : List ByteArray} {s : ByteArray}, s ∈ A → s.size ≤ tot A
  | x :: l, s, h => by
    rcases List.mem_cons.1 h with rfl | h
    · simp [tot]
    · have := tot_mem h; simp [tot]; omega
theorem pad_len (w : Nat) (d : Bs) : (pad w d).length = w - d.length + d.length := by unfold pad; simp
/-- a byte of a padded number -/
theorem pad_at (w : Nat) (d : Bs) (j : Nat) (hj : j < (pad w d).length) :
    (j < w - d.length ∧ (pad w d)[j]? = some 32) ∨ (w - d.length ≤ j ∧ ∃ c, (pad w d)[j]? = some c ∧ d[j - (w - d.length)]? = some c ∧ d.take (j + 1 - (w - d.length)) = d.take (j - (w - d.length)) ++ [c]) := by
  rw [pad_len] at hj
  unfold pad
  rcases Nat.lt_or_ge j (w - d.length) with h | h
  · refine .inl ⟨h, ?_⟩
    rw [List.getElem?_append_left (by simpa using h), List.getElem?_replicate, if_pos h]
  · refine .inr ⟨h, ?_⟩
    have h2 : j - (w - d.length) < d.length := by omega
    refine ⟨d[j - (w - d.length)], ?_, List.getElem?_eq_getElem h2, ?_⟩
    · rw [List.getElem?_append_right (by simpa using h), List.length_replicate, List.getElem?_eq_getElem h2]
    · rw [show j + 1 - (w - d.length) = (j - (w - d.length)) + 1 by omega, List.take_succ_eq_append_getElem h2]
theorem dig_of (d : Bs) (hd : d.all dig = true) {j : Nat} {c : UInt8} (h : d[j]? = some c) : 48 ≤ c.toNat ∧ c.toNat ≤ 57 := by
  have := List.all_eq_true.1 hd c (List.mem_of_getElem? h)
  simpa [dig] using this
theorem dec_pos (u : Nat) : 1 ≤ (Lib.decDigits u).length := by
  by_cases h : u < 10
  · rw [dec_small u h]; simp
  · rw [dec_big u h]; simp

set_option maxHeartbeats 2000000 in
set_option maxRecDepth 100000 in
theorem lines_walk (a : Option Addr) (n cap : Nat) (ss : List ByteArray) (fr wd : Nat) (w : World) (hT : Tx w a n cap ss) (hn : n ≤ 4611686018427387904) (hss : ∀ s ∈ ss, s.size ≤ 4611686018427387904) (hf : fr ≤ 4294967295) (hw : wd ≤ 255) (ht : Tab w) :
    Calls Tryd.prog 7 #[.slice a n cap, .int .u32 fr, .int .u8 wd] w fun e w' => e = .returned (.bool true) ∧ Below w.heap.size w w' := by
  have HT := hide hT
  have HTab := hide ht
  have hsl := hT.len
  have A1 := hide (alive_any w ht)
  have AA : Hid (∀ W, Below w.heap.size w W → Calls Tryd.prog 8 #[] W fun e w' => e = .returned (.bool true) ∧ Below W.heap.size W w') := fun W hW => alive_any W ((unhide HTab).below hW)
  have TS : Hid (∀ W, Below w.heap.size w W → Calls Tryd.prog 15 #[.slice a n cap] W fun e w' => (∃ v : Int, e = .returned (.int .i64 v) ∧ 0 ≤ v ∧ v ≤ 4611686018428436480 ∧ (v ≤ 1048576 → v = ((n + tot ss : Nat) : Int))) ∧ w' = W) := fun W hW => Pa.textsSize_any a n cap ss W ((unhide HT).below hW) hn hss
  clear hT ht
  go_enter Tryd.func7, Tryd.ntmps7
  go_wp2_with fail
  refine (unhide A1).mono ?_
  rintro e w1 ⟨rfl, hB1⟩
  clear A1
  by_cases hb1 : (2000 : Int) < (n : Int)
  · go_wp2_with fail
    refine (unhide AA w1 hB1).mono ?_
    rintro e w2 ⟨rfl, hB2⟩
    have hB2' : Below w.heap.size w w2 := hB1.trans (hB2.mono hB1.size)
    go_wp2_with fail
    go_ret
    exact ⟨rfl, hB2'⟩
  · go_wp2_with fail
    refine (unhide TS w1 hB1).mono ?_
    rintro e w2 ⟨⟨v, rfl, hv0, hv1, hv2⟩, rfl⟩
    have HV := hide hv2
    clear TS hv2
    by_cases hb2 : (50000 : Int) < v
    · go_wp2_with fail
      refine (unhide AA w2 hB1).mono ?_
      rintro e w3 ⟨rfl, hB2⟩
      have hB2' : Below w.heap.size w w3 := hB1.trans (hB2.mono hB1.size)
      go_wp2_with fail
      go_ret
      exact ⟨rfl, hB2'⟩
    · have hve := unhide HV (by omega)
      have hss2 : ∀ s ∈ ss, s.size ≤ 50000 := fun s hs => by have := tot_mem hs; omega
      have HSS := hide hss2
      obtain ⟨W, hW⟩ : ∃ W : Nat, W = wd % 33 := ⟨_, rfl⟩
      obtain ⟨N, hN⟩ : ∃ N : Nat, N = fr % 2147483648 := ⟨_, rfl⟩
      have hWe : (wd : Int) % 33 = (W : Int) := by omega
      have hNe : (fr : Int) % 2147483648 = (N : Int) := by omega
      have hW2 : W ≤ 32 := by omega
      have hN2 : N ≤ 2147483647 := by omega
      have F := hide (number_any a n cap cap ss (N : Int) (W : Int) w2 ((unhide HT).below hB1) ((unhide HTab).below hB1) (by omega) (fun s hs => by have := hss2 s hs; omega))
      rw [show inside (W : Int) 32 = W by unfold inside; omega, show inside (N : Int) 2147483647 = N by unfold inside; omega] at F
      clear AA hve HV hW hN hss2 hss HTab
      go_wp2_with fail
      rw [hWe, hNe]
      refine (unhide F).mono ?_
      rintro e w3 ⟨vo, rfl, hO, hB3⟩
      clear F
      have hB3' : Below w.heap.size w w3 := hB1.trans (hB3.mono hB1.size)
      have hTl : Hid (Tx w3 a n cap ss) := (unhide HT).below hB3'
      obtain ⟨ao, co, hvo, hTo⟩ := tx_of_rowS hO
      have hLl : (numL W N (txs ss)).length = n := by rw [numL_len, List.length_map]; exact hsl
      rw [hLl] at hvo hTo
      subst hvo
      have HTo := hide hTo
      clear hO hTo hWe hNe hB3 hB1 HT
      go_wp2_with fail
      go_loopw [10] (fun i wr => ∃ k q : Nat, k ≤ n ∧ i = .int .i64 k ∧ wr = w3.drewN q) (fun i _ => n - (intOf i).toNat)
      case atStart => exact ⟨0, 0, by omega, rfl, rfl⟩
      case round =>
        obtain ⟨k, q, hk, rfl, rfl⟩ := hrel
        by_cases hlt : k < n
        · have hlt' : (k : Int) < (n : Int) := by omega
          rcases (unhide hTl).cells with h0 | ⟨b, off, rfl, hb, hc⟩
          · omega
          rcases (unhide HTo).cells with h0 | ⟨b2, off2, rfl, hb2', hc2⟩
          · omega
          obtain ⟨x, hx⟩ : ∃ x, x = ss.getD k ByteArray.empty := ⟨_, rfl⟩
          have hxs : x.size ≤ 50000 := by
            rw [hx]
            have : ss.getD k ByteArray.empty ∈ ss := by rw [List.getD, List.getElem?_eq_getElem (by omega)]; simp
            exact unhide HSS _ this
          have hcx := hc k hlt
          rw [← hx] at hcx
          obtain ⟨y, hy⟩ : ∃ y, y = bt (numX (N + k) W (bs x)) := ⟨_, rfl⟩
          have hcy : w3.cell? ⟨b2, off2 + k, none⟩ = some (.string y) := by
            rw [hc2 k hlt, hy]
            have h1 := numL_get W (txs ss) N k (by rw [List.length_map]; omega)
            have h2 : (txs ss)[k]'(by rw [List.length_map]; omega) = bs x := by rw [hx, List.getElem_map]; simp [List.getD, List.getElem?_eq_getElem (show k < ss.length by omega)]
            rw [h2] at h1
            simp [List.getD, h1]
          obtain ⟨d, hd⟩ : ∃ d, d = Lib.decDigits (N + k) := ⟨_, rfl⟩
          obtain ⟨p, hp⟩ : ∃ p, p = (pad W d).length := ⟨_, rfl⟩
          have hyb : bs y = pad W d ++ 9 :: bs x := by rw [hy, hd]; rfl
          have hys : y.size = p + 1 + x.size := by rw [← bs_len, hyb, List.length_append, List.length_cons, bs_len, ← hp]; omega
          have hdl : d.length ≤ 21 := by rw [hd]; exact digits_len (N + k) (by omega)
          have hd1 : 1 ≤ d.length := by rw [hd]; exact dec_pos _
          have hpl := pad_len W d
          rw [← hp] at hpl
          have hp9 : Hid (∀ (h : p < y.size), y[p] = 9) := fun h => by
            have e : y[p] = (bs y)[p]'(by rw [bs_len]; exact h) := rfl
            rw [e]
            simp only [hyb]
            rw [List.getElem_append_right (by omega)]
            simp [← hp]
          have hpx : Hid (y.extract (p + 1) y.size = x) := by
            apply ba_ext
            rw [bs_from, hyb, List.drop_append, ← hp]
            simp [hp]
          have hpj : Hid (∀ j, (h : j < p) → (h2 : j < y.size) → (j < W - d.length ∧ y[j] = 32) ∨ (W - d.length ≤ j ∧ 48 ≤ y[j].toNat ∧ y[j].toNat ≤ 57 ∧ nval (d.take (j + 1 - (W - d.length))) = nval (d.take (j - (W - d.length))) * 10 + (y[j].toNat - 48))) := fun j h h2 => by
            have e : (bs y)[j]? = some y[j] := by rw [List.getElem?_eq_getElem (by rw [bs_len]; exact h2)]; rfl
            rw [hyb, List.getElem?_append_left (by rw [← hp]; exact h)] at e
            rcases pad_at W d j (by rw [← hp]; exact h) with ⟨h3, h4⟩ | ⟨h3, c, h4, h5, h6⟩
            · rw [e] at h4
              exact .inl ⟨h3, Option.some.inj h4⟩
            · rw [e] at h4
              have h7 := dig_of d (by rw [hd]; exact decDigits_all _) h5
              rw [← Option.some.inj h4] at h7 h6
              exact .inr ⟨h3, h7.1, h7.2, by rw [h6, nval_snoc]⟩
          have hnv : Hid (∀ j, nval (d.take j) ≤ N + k) := fun j => by have := nval_take_le d j; rw [hd, nval_dec] at this; rw [hd]; exact this
          have hne : Hid (nval d = N + k) := by rw [hd]; exact nval_dec _
          clear hx hc hc2 hy hyb hd hp
          obtain ⟨D, hD⟩ : ∃ D : Int, D = (p : Int) + 1 := ⟨_, rfl⟩
          obtain ⟨M, hM⟩ : ∃ M : Nat, M = max W 1 := ⟨_, rfl⟩
          obtain ⟨p1, hp1⟩ : ∃ p1 : Nat, p1 = p + 1 := ⟨_, rfl⟩
          have g1 : IntKind.i64.wrap ((y.size : Int) - (x.size : Int)) = D := by rw [IntWalk.i64_in _ (by omega)]; omega
          have g2 : IntKind.i64.wrap (D - 1) = (p : Int) := by rw [IntWalk.i64_in _ (by omega)]; omega
          have gM : max (W : Int) 1 = (M : Int) := by omega
          have g3 : ¬ p < M := by omega
          have g4 : IntKind.i64.wrap ((p : Int) + 1) = (p1 : Int) := by rw [IntWalk.i64_in _ (by omega)]; omega
          have g5 : p < y.size := by omega
          have g6 : ¬ y.size < p1 := by omega
          have g7 : (y[p].toNat : Int) = 9 := by rw [unhide hp9 g5]; rfl
          have g8 : y.extract p1 y.size = x := by rw [hp1]; exact unhide hpx
          have hys2 : y.size ≤ 60000 := by omega
          have HD := hide (And.intro hD (And.intro hM (And.intro hp1 (And.intro hys hpl))))
          clear hD hM hp1 hys hpl
          go_wp2_with fail
          go_quiet (fail)
          go_wp2_with fail
          go_quiet (fail)
          go_wp2_with fail
          obtain ⟨B, hB⟩ : ∃ B, B = W - d.length := ⟨_, rfl⟩
          rw [← hB] at hpj
          have hpB : p = B + d.length := by have := (unhide HD).2.2.2.2; omega
          have hmaxW : max W d.length = p := by omega
          have HPB := hide hpB
          have HMW := hide hmaxW
          clear hB hpB hmaxW g1 g2 gM g3 g4 g6 g7 g8 HD hp9 hpx
          go_loopw [12, 13, 14] (fun vv dd jj wr => ∃ (j q2 g V : Nat), j ≤ p ∧ jj = .int .i64 j ∧ dd = .int .i64 g ∧ vv = .int .i64 V ∧ g = j - B ∧ Hid (V = nval (d.take g)) ∧ wr = w3.drewN q2) (fun _ _ jj _ => p - (intOf jj).toNat)
          case atStart => exact ⟨0, _, 0, 0, by omega, rfl, rfl, rfl, by omega, by simp [Hid, nval], by rw [World.drewN_drewN, World.drewN_drewN]⟩
          case round =>
            obtain ⟨j, q2, g, V, hj, rfl, rfl, rfl, hg, hV, rfl⟩ := hrel
            by_cases hjp : j < p
            · have hjp' : (j : Int) < (p : Int) := by omega
              have hjy : j < y.size := by omega
              rcases unhide hpj j hjp hjy with ⟨h1, h2⟩ | ⟨h1, h2, h3, h4⟩
              · have e32 : (y[j].toNat : Int) = 32 := by rw [h2]; rfl
                obtain rfl : g = 0 := by omega
                clear h2
                go_wp2_with fail
                go_roundw
                case rel => exact ⟨j + 1, q2, 0, V, by omega, by go_num, rfl, rfl, by omega, hV, rfl⟩
                case measure => simp [intOf]; omega
              · have e32 : ((y[j].toNat : Int) == 32) = false := beq_eq_false_iff_ne.2 (by omega)
                have e48 : ¬ (y[j].toNat : Int) < 48 := by omega
                have e57 : ¬ (57 : Int) < (y[j].toNat : Int) := by omega
                obtain ⟨V2, hV2⟩ : ∃ V2, V2 = nval (d.take (g + 1)) := ⟨_, rfl⟩
                have hVb : V2 ≤ N + k := by rw [hV2]; exact unhide hnv (g + 1)
                have hVV : V2 = V * 10 + (y[j].toNat - 48) := by
                  rw [hV2, unhide hV]
                  rw [show g + 1 = j + 1 - B by omega, h4, ← hg]
                have hu8 : IntKind.u8.wrap ((y[j].toNat : Int) - 48) = (y[j].toNat : Int) - 48 := IntWalk.u8_in _ (by omega)
                have hVI : 10 * (V : Int) + ((y[j].toNat : Int) - 48) = (V2 : Int) := by omega
                have HV2 := hide hV2
                clear h4 hV2 hV h2 h3
                go_wp2_with fail
                go_roundw
                case rel => exact ⟨j + 1, q2, g + 1, V2, by omega, by go_num, by go_num, by go_num, by omega, HV2, rfl⟩
                case measure => simp [intOf]; omega
            · obtain rfl : j = p := by omega
              have hgd : g = d.length := by have := unhide HPB; omega
              have hVe : (V : Int) = (N : Int) + (k : Int) := by
                have h1 := unhide hne
                rw [unhide hV, hgd, List.take_length, h1]; omega
              have hmx : max (W : Int) (g : Int) = (j : Int) := by have := unhide HMW; omega
              have hVs : V ≤ 4611686018427387904 := by omega
              clear hgd hV hg
              go_wp2_with fail
              go_roundw
              case rel => exact ⟨k + 1, q2, by omega, by go_num, rfl⟩
              case measure => simp [intOf]; omega
        · go_wp2_with fail
          go_ret
          exact ⟨rfl, below_drewN hB3' _⟩
end Go.Proofs.YtpfdjnnnemkoiabDoor.Cu
