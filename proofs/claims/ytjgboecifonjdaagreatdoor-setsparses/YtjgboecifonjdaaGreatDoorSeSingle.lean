/- What readOctal, readSingle, goesOn and readRange answer. -/
import Derived.Test.YtjgboecifonjdaaGreatDoorSeRead
namespace Go.Proofs.YtjgboecifonjdaaGreatDoor.Se
open Go.RowKit

/-- what readOctal and readSingle hand back -/
def SinR (o : Option (UInt8 × Bs)) (e : Ending) : Prop := ∃ (c : Int) (r : ByteArray) (ok : Bool), e = .returned (.tuple #[.int .u8 c, .string r, .bool ok]) ∧ ((ok = false ∧ o = none) ∨ (ok = true ∧ ∃ d : UInt8, c = d.toNat ∧ o = some (d, bs r)))
theorem isO_int (c : UInt8) : isO c = (decide (48 ≤ (c.toNat : Int)) && decide ((c.toNat : Int) ≤ 55)) := by
  unfold isO
  congr 1
  · congr 1; rw [UInt8.le_iff_toNat_le]; simp; omega
  · congr 1; rw [UInt8.le_iff_toNat_le]; simp; omega
def hd (s : Bs) : Bool := match s with | [] => false | c :: _ => isO c
theorem octal_hd (s : Bs) : octal s = if hd s = true ∧ (octs 3 0 s).1 ≤ 255 then some (UInt8.ofNat (octs 3 0 s).1, (octs 3 0 s).2) else none := by
  cases s with
  | nil => rfl
  | cons c r => rfl
theorem octs_go (k n : Nat) (c : UInt8) (r : Bs) (h : isO c = true) : octs (k + 1) n (c :: r) = octs k (n * 8 + (c.toNat - 48)) r := by rw [octs, if_pos h]
theorem octs_stop (k n : Nat) (c : UInt8) (r : Bs) (h : isO c = false) : octs (k + 1) n (c :: r) = (n, c :: r) := by rw [octs, h]; rfl
theorem octs_nil (k n : Nat) : octs k n [] = (n, []) := by cases k <;> rfl
theorem hd_at (s : ByteArray) (h : 0 < s.size) : hd (bs s) = isO s[0] := by
  have := bs_at s 0 h
  rw [List.drop_zero] at this
  rw [this]; rfl

theorem oct_close (s : ByteArray) (k n : Nat) (ci : Int) (ok : Bool) (e : octs 3 0 (bs s) = (n, (bs s).drop k)) (hk : decide (0 < k) = hd (bs s)) (hci : ci = (n : Int) % 256) (hok : ok = (decide (0 < k) && decide (n ≤ 255))) :
    SinR (octal (bs s)) (.returned (.tuple #[.int .u8 ci, .string (s.extract k s.size), .bool ok])) := by
  refine ⟨_, _, _, rfl, ?_⟩
  rw [octal_hd, e, ← hk, hok]
  by_cases h1 : 0 < k
  · by_cases h2 : n ≤ 255
    · refine .inr ⟨by simp [h1, h2], UInt8.ofNat n, ?_, ?_⟩
      · rw [hci]; simp
      · rw [if_pos ⟨by simp [h1], h2⟩, bs_from]
    · exact .inl ⟨by simp [h2], by rw [if_neg (by simp [h2])]⟩
  · exact .inl ⟨by simp [h1], by rw [if_neg (by simp [h1])]⟩

theorem wrap_byte (n : Nat) : IntKind.u8.wrap (n : Int) = (n : Int) % 256 := by
  simp [IntKind.wrap, IntKind.signed, IntKind.bits]
theorem below_drew (w : World) (q : Nat) : Below w.heap.size w (w.drewN q) := ⟨rfl, rfl, rfl, Nat.le_refl _, fun _ _ => rfl⟩
set_option maxHeartbeats 1000000 in
set_option maxRecDepth 100000 in
theorem readOctal_any (s : ByteArray) (w : World) (_hs : s.size ≤ 4611686018427387900) :
    Calls Tryz.prog 91 #[.string s] w fun e w' => SinR (octal (bs s)) e ∧ Below w.heap.size w w' := by
  go_enter Tryz.func91, Tryz.ntmps91
  go_wp2
  go_loopw [5, 6] (fun ni i wr => ∃ k n : Nat, k ≤ 3 ∧ k ≤ s.size ∧ i = .int .i64 k ∧ ni = .int .i64 n ∧ wr = w ∧ n < 512 ∧ (k < 3 → n < 64) ∧ (k < 2 → n < 8) ∧ (k < 1 → n < 1) ∧ Hid (octs 3 0 (bs s) = octs (3 - k) n ((bs s).drop k)) ∧ Hid (0 < k → hd (bs s) = true)) (fun _ i _ => 3 - (intOf i).toNat)
  case atStart => exact ⟨0, 0, by omega, Nat.zero_le _, rfl, rfl, by trivial, by omega, by omega, by omega, by omega, rfl, fun h => absurd h (by omega)⟩
  case round =>
    obtain ⟨k, n, hk3, hks, rfl, rfl, rfl, hn, hn3, hn2, hn1, hO, hH⟩ := hrel
    have fin : Hid (octs 3 0 (bs s) = (n, (bs s).drop k) → (k = 0 → hd (bs s) = false) → ∀ ci ok, ci = (n : Int) % 256 → ok = (decide (0 < k) && decide (n ≤ 255)) → SinR (octal (bs s)) (.returned (.tuple #[.int .u8 ci, .string (s.extract k s.size), .bool ok]))) := by
      intro e h0 ci ok hci hok
      refine oct_close s k n ci ok e ?_ hci hok
      by_cases h : k = 0
      · rw [h0 h]; simp [h]
      · rw [unhide hH (by omega)]; simp; omega
    by_cases hlt : k < 3
    · by_cases hls : k < s.size
      · have hat := hide (bs_at s k hls)
        have hL := hide (isO_int s[k])
        have h0 : Hid (k = 0 → hd (bs s) = isO s[k]) := fun e => by subst e; exact hd_at s hls
        have hc255 : (s[k].toNat : Int) ≤ 255 := by have := s[k].toNat_lt; omega
        by_cases ha : 48 ≤ (s[k].toNat : Int)
        · by_cases hb : (s[k].toNat : Int) ≤ 55
          · have hlow : Hid (isO s[k] = true) := by rw [unhide hL]; simp [ha, hb, Hid]
            have n1 : Hid (octs 3 0 (bs s) = octs (3 - (k + 1)) (n * 8 + (s[k].toNat - 48)) ((bs s).drop (k + 1))) := by
              show _ = _
              rw [unhide hO, unhide hat, show 3 - k = (3 - (k + 1)) + 1 from by omega, octs_go _ _ _ _ (unhide hlow)]
            have n2 : Hid (0 < k + 1 → hd (bs s) = true) := fun _ => by
              by_cases h : k = 0
              · rw [unhide h0 h, unhide hlow]
              · exact unhide hH (by omega)
            clear hO hH fin h0
            go_wp2_with fail
            go_roundw
            case rel => exact ⟨k + 1, n * 8 + (s[k].toNat - 48), by omega, by omega, by go_num, by go_num, by trivial, by omega, by omega, by omega, by omega, n1, n2⟩
            case measure => simp [intOf]; omega
          · have hlow : isO s[k] = false := by rw [unhide hL]; simp; omega
            have F := hide (unhide fin (by rw [unhide hO, unhide hat, show 3 - k = (3 - (k + 1)) + 1 from by omega, octs_stop _ _ _ _ hlow]) (fun h => by rw [unhide h0 h, hlow]))
            clear fin hO hH h0 hlow
            rcases (show (0 < k ∧ n ≤ 255) ∨ ¬ 0 < k from by omega) with ⟨e1, e2⟩ | e1
            all_goals
              go_wp2_with fail
              go_quiet (fail)
              go_wp2_with fail
              go_ret3
              refine ⟨unhide F _ _ ?_ ?_, below_drew _ _⟩
              · first | exact wrap_byte n | omega
              · first | (rw [decide_eq_false e1]; exact rfl) | (rw [Bool.eq_iff_iff, Bool.and_eq_true, decide_eq_true_eq, decide_eq_true_eq, decide_eq_true_eq]; omega)
        · have hlow : isO s[k] = false := by rw [unhide hL]; simp; omega
          have F := hide (unhide fin (by rw [unhide hO, unhide hat, show 3 - k = (3 - (k + 1)) + 1 from by omega, octs_stop _ _ _ _ hlow]) (fun h => by rw [unhide h0 h, hlow]))
          clear fin hO hH h0 hlow
          rcases (show (0 < k ∧ n ≤ 255) ∨ ¬ 0 < k from by omega) with ⟨e1, e2⟩ | e1
          all_goals
            go_wp2_with fail
            go_quiet (fail)
            go_wp2_with fail
            go_ret3
            refine ⟨unhide F _ _ ?_ ?_, below_drew _ _⟩
            · first | exact wrap_byte n | omega
            · first | (rw [decide_eq_false e1]; exact rfl) | (rw [Bool.eq_iff_iff, Bool.and_eq_true, decide_eq_true_eq, decide_eq_true_eq, decide_eq_true_eq]; omega)
      · have hd0 : (bs s).drop k = [] := bs_end s k (by omega)
        have F := hide (unhide fin (by rw [unhide hO, hd0, octs_nil]) (fun h => by
          have : (bs s).length = 0 := by rw [bs_len]; omega
          rw [List.eq_nil_of_length_eq_zero this]; rfl))
        clear fin hO hH hd0
        rcases (show (0 < k ∧ n ≤ 255) ∨ ¬ 0 < k from by omega) with ⟨e1, e2⟩ | e1
        all_goals
          go_wp2_with fail
          go_quiet (fail)
          go_wp2_with fail
          go_ret3
          refine ⟨unhide F _ _ ?_ ?_, below_drew _ _⟩
          · first | exact wrap_byte n | omega
          · first | (rw [decide_eq_false e1]; exact rfl) | (rw [Bool.eq_iff_iff, Bool.and_eq_true, decide_eq_true_eq, decide_eq_true_eq, decide_eq_true_eq]; omega)
    · have hk3' : k = 3 := by omega
      have F := hide (unhide fin (by rw [unhide hO, hk3']; rfl) (fun h => by omega))
      clear hk3'
      clear fin hO hH
      rcases (show (0 < k ∧ n ≤ 255) ∨ (0 < k ∧ ¬ n ≤ 255) from by omega) with ⟨e1, e2⟩ | ⟨e1, e2⟩
      all_goals
        go_wp2_with fail
        go_quiet (fail)
        go_wp2_with fail
        go_ret3
        refine ⟨unhide F _ _ ?_ ?_, below_drew _ _⟩
        · first | exact wrap_byte n | omega
        · first | (rw [decide_eq_false e1]; exact rfl) | (rw [Bool.eq_iff_iff, Bool.and_eq_true, decide_eq_true_eq, decide_eq_true_eq, decide_eq_true_eq]; omega)
/-! ### a single -/
theorem u8_ne {a b : UInt8} (h : ¬ (a.toNat : Int) = (b.toNat : Int)) : a ≠ b := fun e => h (by rw [e])
theorem u8_eq {a b : UInt8} (h : (a.toNat : Int) = (b.toNat : Int)) : a = b := UInt8.toNat_inj.1 (by omega)
theorem bs_one (s : ByteArray) (h : 0 < s.size) : bs s = s[0] :: (bs s).drop 1 := by
  have := bs_at s 0 h
  rwa [List.drop_zero] at this
theorem sg0 (s : ByteArray) (h : 0 < s.size) (hc : s[0] ≠ 92) : single (bs s) = some (s[0], (bs s).drop 1) := by
  rw [bs_one s h]; simp [single, hc]
theorem sg1 (s : ByteArray) (h : s.size = 1) (hc : s[0] = 92) : single (bs s) = none := by
  rw [bs_one s (by omega), bs_end s 1 (by omega), hc]; rfl
theorem sg2 (s : ByteArray) (h : 1 < s.size) (hc : s[0] = 92) : single (bs s) = if s[1] = 92 then some (92, (bs s).drop 2) else if s[1] = 110 then some (10, (bs s).drop 2) else if s[1] = 116 then some (9, (bs s).drop 2) else octal ((bs s).drop 1) := by
  rw [bs_one s (by omega), bs_at s 1 h, hc]
  simp only [single, ↓reduceIte, List.drop_succ_cons, List.drop_zero]
theorem sin_ok {s : ByteArray} {c : Int} {d : UInt8} {k : Nat} {o : Option (UInt8 × Bs)} (h : o = some (d, (bs s).drop k)) (hc : c = d.toNat) : SinR o (.returned (.tuple #[.int .u8 c, .string (s.extract k s.size), .bool true])) :=
  ⟨_, _, _, rfl, .inr ⟨rfl, d, hc, by rw [h, bs_from]⟩⟩

set_option maxHeartbeats 1000000 in
set_option maxRecDepth 100000 in
theorem readSingle_any (s : ByteArray) (w : World) (hs : s.size ≤ 4611686018427387900) (h0 : 0 < s.size) :
    Calls Tryz.prog 87 #[.string s] w fun e w' => SinR (single (bs s)) e ∧ Below w.heap.size w w' := by
  have h0' : (0 : Int) < (s.size : Int) := by omega
  by_cases hc : (s[0].toNat : Int) = 92
  · have hc' : s[0] = 92 := u8_eq hc
    have t1 : ((s[0].toNat : Int) != 92) = false := by simp [hc]
    by_cases h1 : s.size = 1
    · have F := hide (sg1 s h1 hc')
      have t2 : ((s.size : Int) == 1) = true := by simp [h1]
      clear hc hc' h1
      go_enter Tryz.func87, Tryz.ntmps87
      go_wp2_with fail
      go_ret3
      exact ⟨⟨_, _, _, rfl, .inl ⟨rfl, unhide F⟩⟩, Below.refl _ _⟩
    · have h2 : 1 < s.size := by omega
      have t2 : ((s.size : Int) == 1) = false := by simp; omega
      have G := hide (sg2 s h2 hc')
      have hl1 : (1 : Int) ≤ (s.size : Int) := by omega
      have hl2 : (2 : Int) ≤ (s.size : Int) := by omega
      clear hc hc' h1
      by_cases d1 : (s[1].toNat : Int) = 92
      · have F : Hid (single (bs s) = some (92, (bs s).drop 2)) := by rw [unhide G, if_pos (u8_eq d1)]; exact rfl
        have t3 : ((s[1].toNat : Int) == 92) = true := by simp [d1]
        clear d1 G
        go_enter Tryz.func87, Tryz.ntmps87
        go_wp2_with fail
        go_quiet (fail)
        go_wp2_with fail
        go_ret3
        exact ⟨sin_ok (unhide F) rfl, below_drew _ _⟩
      · have t3 : ((s[1].toNat : Int) == 92) = false := by simp [d1]
        rw [if_neg (u8_ne d1)] at G
        clear d1
        by_cases d2 : (s[1].toNat : Int) = 110
        · have F : Hid (single (bs s) = some (10, (bs s).drop 2)) := by rw [unhide G, if_pos (u8_eq d2)]; exact rfl
          have t4 : ((s[1].toNat : Int) == 110) = true := by simp [d2]
          clear d2 G
          go_enter Tryz.func87, Tryz.ntmps87
          go_wp2_with fail
          go_quiet (fail)
          go_wp2_with fail
          go_ret3
          exact ⟨sin_ok (unhide F) rfl, below_drew _ _⟩
        · have t4 : ((s[1].toNat : Int) == 110) = false := by simp [d2]
          rw [if_neg (u8_ne d2)] at G
          clear d2
          by_cases d3 : (s[1].toNat : Int) = 116
          · have F : Hid (single (bs s) = some (9, (bs s).drop 2)) := by rw [unhide G, if_pos (u8_eq d3)]; exact rfl
            have t5 : ((s[1].toNat : Int) == 116) = true := by simp [d3]
            clear d3 G
            go_enter Tryz.func87, Tryz.ntmps87
            go_wp2_with fail
            go_quiet (fail)
            go_wp2_with fail
            go_ret3
            exact ⟨sin_ok (unhide F) rfl, below_drew _ _⟩
          · have t5 : ((s[1].toNat : Int) == 116) = false := by simp [d3]
            rw [if_neg (u8_ne d3)] at G
            clear d3
            have C : Hid (∀ W, Calls Tryz.prog 91 #[.string (s.extract 1 s.size)] W fun e w' => SinR (single (bs s)) e ∧ Below W.heap.size W w') := fun W => by
              rw [unhide G, ← bs_from]; exact readOctal_any _ W (by rw [size_from]; omega)
            clear G
            go_enter Tryz.func87, Tryz.ntmps87
            go_wp2_with fail
            refine (unhide C _).mono ?_
            rintro e w' ⟨⟨c, r, ok, rfl, hh⟩, hb⟩
            have HH := hide hh
            clear hh
            go_wp2_with fail
            go_ret3
            exact ⟨⟨_, _, _, rfl, unhide HH⟩, hb⟩
  · have hc' : s[0] ≠ 92 := u8_ne hc
    have t1 : ((s[0].toNat : Int) != 92) = true := by simp [hc]
    have F := hide (sg0 s h0 hc')
    have hl1 : (1 : Int) ≤ (s.size : Int) := by omega
    clear hc hc'
    go_enter Tryz.func87, Tryz.ntmps87
    go_wp2_with fail
    go_quiet (fail)
    go_wp2_with fail
    go_ret3
    exact ⟨sin_ok (unhide F) rfl, below_drew _ _⟩

/-! ### a range -/
theorem on_short (s : ByteArray) (h : s.size < 2) : goesOn (bs s) = false := by
  rcases hb : bs s with _ | ⟨c, _ | ⟨d, t⟩⟩
  · rfl
  · rfl
  · have := bs_len s; rw [hb] at this; simp at this; omega
theorem on_long (s : ByteArray) (h : 1 < s.size) : goesOn (bs s) = (decide (s[0] = 45) && (cutC ((bs s).drop 1)).isNone) := by
  rw [bs_one s (by omega), bs_at s 1 h]; simp [goesOn]

set_option maxHeartbeats 1000000 in
set_option maxRecDepth 100000 in
theorem goesOn_any (s : ByteArray) (w : World) (hs : s.size ≤ 4611686018427387900) :
    Calls Tryz.prog 88 #[.string s] w fun e w' => e = .returned (.bool (goesOn (bs s))) ∧ w' = w := by
  by_cases h2 : s.size < 2
  · have F := hide (on_short s h2)
    have t1 : (s.size : Int) < 2 := by omega
    go_enter Tryz.func88, Tryz.ntmps88
    go_wp2_with fail
    go_ret
    exact ⟨by rw [unhide F]; rfl, rfl⟩
  · have hl : 1 < s.size := by omega
    have t1 : ¬ (s.size : Int) < 2 := by omega
    have h0' : (0 : Int) < (s.size : Int) := by omega
    have hl1 : (1 : Int) ≤ (s.size : Int) := by omega
    have G := hide (on_long s hl)
    by_cases hc : (s[0].toNat : Int) = 45
    · have t2 : ((s[0].toNat : Int) != 45) = false := by simp [hc]
      have G2 : Hid (goesOn (bs s) = (cutC ((bs s).drop 1)).isNone) := by rw [unhide G, show s[0] = 45 from u8_eq hc]; exact rfl
      have C : Hid (∀ W, Calls Tryz.prog 55 #[.string (s.extract 1 s.size)] W fun e w' => CutR ((bs s).drop 1) e ∧ w' = W) := fun W => by
        rw [← bs_from]; exact cutClass_any _ W (by rw [size_from]; omega)
      clear hc G
      go_enter Tryz.func88, Tryz.ntmps88
      go_wp2_with fail
      refine (unhide C _).mono ?_
      rintro e w' ⟨⟨n, r, ok, rfl, hh⟩, rfl⟩
      have F : Hid (goesOn (bs s) = !ok) := by
        rw [unhide G2]
        rcases hh with ⟨rfl, h⟩ | ⟨rfl, h⟩ <;> rw [h] <;> exact rfl
      clear hh G2
      go_wp2_with fail
      go_ret
      exact ⟨by rw [unhide F]; rfl, rfl⟩
    · have t2 : ((s[0].toNat : Int) != 45) = true := by simp [hc]
      have F : Hid (goesOn (bs s) = false) := by rw [unhide G, decide_eq_false (u8_ne hc)]; exact rfl
      clear hc G
      go_enter Tryz.func88, Tryz.ntmps88
      go_wp2_with fail
      go_ret
      exact ⟨by rw [unhide F]; rfl, rfl⟩

/-- what readRange hands back -/
def RanR (o : Option (UInt8 × UInt8 × Bs)) (e : Ending) : Prop := ∃ (a b : Int) (r : ByteArray) (ok : Bool), e = .returned (.tuple #[.int .u8 a, .int .u8 b, .string r, .bool ok]) ∧ ((ok = false ∧ o = none) ∨ (ok = true ∧ ∃ x y : UInt8, a = x.toNat ∧ b = y.toNat ∧ o = some (x, y, bs r)))
theorem results_tmp4 {fn : Func} {t u v x : Tmp} (h : fn.results = #[.tmp t, .tmp u, .tmp v, .tmp x]) (tmps : Array Value) (P : Program) (w : World) :
    (results fn tmps).run P w = .ok (.tuple #[tmps.getD t undef, tmps.getD u undef, tmps.getD v undef, tmps.getD x undef]) w := by
  simp [results, h]
theorem on_pos {s : ByteArray} (h : goesOn (bs s) = true) : 1 < s.size := by
  by_cases h2 : s.size < 2
  · rw [on_short s h2] at h; cases h
  · omega

set_option maxHeartbeats 1000000 in
set_option maxRecDepth 100000 in
theorem readRange_any (s : ByteArray) (w : World) (hs : s.size ≤ 4611686018427387900) (h0 : 0 < s.size) :
    Calls Tryz.prog 57 #[.string s] w fun e w' => RanR (range (bs s)) e ∧ Below w.heap.size w w' := by
  have C1 := hide (fun W => readSingle_any s W hs h0)
  have hnot : ∀ (x : Bool) (w : World), (Op.unary .not (.bool x)).run Tryz.prog w = .ok (.bool (!x)) w := fun _ _ => rfl
  go_enter Tryz.func57, Tryz.ntmps57
  go_wp2_with fail
  refine (unhide C1 _).mono ?_
  rintro e w1 ⟨⟨c, r, ok, rfl, hh⟩, hb1⟩
  clear C1
  rcases hh with ⟨rfl, hsg⟩ | ⟨rfl, d, rfl, hsg⟩
  · have F : Hid (range (bs s) = none) := by unfold range; rw [hsg]; exact rfl
    clear hsg
    go_wp2_with fail
    (try simp only [Exit.inBlock, Exit.then]); refine bodyPost_ret (results_tmp4 rfl _ _ _) rfl ?_
    exact ⟨⟨_, _, _, _, rfl, .inl ⟨rfl, unhide F⟩⟩, hb1⟩
  · have hrl : r.size < s.size := by have := single_lt hsg; rwa [bs_len, bs_len] at this
    have HS := hide hsg
    clear hsg
    have C2 := hide (fun W => goesOn_any r W (by omega))
    cases hg : goesOn (bs r)
    · have F : Hid (range (bs s) = some (d, d, bs r)) := by unfold range; rw [unhide HS]; simp only; rw [hg]; exact rfl
      rw [hg] at C2
      clear hg HS
      go_wp2_with fail
      refine (unhide C2 _).mono ?_
      rintro e w2 ⟨rfl, rfl⟩
      go_wp2_with fail
      (try simp only [Exit.inBlock, Exit.then]); refine bodyPost_ret (results_tmp4 rfl _ _ _) rfl ?_
      exact ⟨⟨_, _, _, _, rfl, .inr ⟨rfl, d, d, rfl, rfl, unhide F⟩⟩, hb1⟩
    · have hp := on_pos hg
      have hl1 : (1 : Int) ≤ (r.size : Int) := by omega
      have C3 : Hid (∀ W, Calls Tryz.prog 87 #[.string (r.extract 1 r.size)] W fun e w' => SinR (single ((bs r).drop 1)) e ∧ Below W.heap.size W w') := fun W => by
        rw [← bs_from]; exact readSingle_any _ W (by rw [size_from]; omega) (by rw [size_from]; omega)
      have G : Hid (range (bs s) = match single ((bs r).drop 1) with | none => none | some (b, t) => if d ≤ b then some (d, b, t) else none) := by
        show _ = _
        conv => lhs; unfold range
        rw [unhide HS]; simp only; rw [hg]; exact rfl
      rw [hg] at C2
      clear hg HS
      go_wp2_with fail
      refine (unhide C2 _).mono ?_
      rintro e w2 ⟨rfl, rfl⟩
      go_wp2_with fail
      refine (unhide C3 _).mono ?_
      rintro e w3 ⟨⟨c3, r3, ok3, rfl, hh3⟩, hb3⟩
      have HB : Hid (Below w.heap.size w w3) := hb1.trans (hb3.mono hb1.size)
      clear hb1 hb3 C2 C3
      rcases hh3 with ⟨rfl, h3⟩ | ⟨rfl, d3, rfl, h3⟩
      · have F : Hid (range (bs s) = none) := by rw [unhide G, h3]; exact rfl
        clear h3 G
        go_wp2_with fail
        (try simp only [Exit.inBlock, Exit.then]); refine bodyPost_ret (results_tmp4 rfl _ _ _) rfl ?_
        exact ⟨⟨_, _, _, _, rfl, .inl ⟨rfl, unhide F⟩⟩, unhide HB⟩
      · by_cases hle : (d.toNat : Int) ≤ (d3.toNat : Int)
        · have F : Hid (range (bs s) = some (d, d3, bs r3)) := by rw [unhide G, h3]; simp only; rw [if_pos (UInt8.le_iff_toNat_le.2 (by omega))]; exact rfl
          clear h3 G
          go_wp2_with fail
          (try simp only [Exit.inBlock, Exit.then]); refine bodyPost_ret (results_tmp4 rfl _ _ _) rfl ?_
          exact ⟨⟨_, _, _, _, rfl, .inr ⟨rfl, d, d3, rfl, rfl, unhide F⟩⟩, unhide HB⟩
        · have F : Hid (range (bs s) = none) := by rw [unhide G, h3]; simp only; rw [if_neg (fun h => hle (by have := UInt8.le_iff_toNat_le.1 h; omega))]; exact rfl
          clear h3 G
          go_wp2_with fail
          (try simp only [Exit.inBlock, Exit.then]); refine bodyPost_ret (results_tmp4 rfl _ _ _) rfl ?_
          exact ⟨⟨_, _, _, _, rfl, .inl ⟨by simp; omega, unhide F⟩⟩, unhide HB⟩
end Go.Proofs.YtjgboecifonjdaaGreatDoor.Se
