/- A reader's methods: take, number, length, text. -/
import Derived.Test.YtbofidpoajdcmaaGreatDoorCdPlain
import Derived.Deep.LoopGhost
namespace Go.Proofs.YtbofidpoajdcmaaGreatDoor.Cd
open Go.RowKit Cu Tr

/-- all but these places is as it was -/
structure Fr (S : List Addr) (w w' : World) : Prop where
  os : w'.os = w.os
  tape : w'.tape = w.tape
  output : w'.output = w.output
  size : w.heap.size ≤ w'.heap.size
  block : ∀ k, k < w.heap.size → (∀ p ∈ S, p.block ≠ k) → w'.heap[k]? = w.heap[k]?
  cell : ∀ p : Addr, p.block < w.heap.size → p ∉ S → w'.cell? p = w.cell? p
  frozen : ∀ p : Addr, p.block < w.heap.size → w'.frozen? p = w.frozen? p
theorem Fr.refl (S : List Addr) (w : World) : Fr S w w := ⟨rfl, rfl, rfl, Nat.le_refl _, fun _ _ _ => rfl, fun _ _ _ => rfl, fun _ _ => rfl⟩
theorem Fr.mono {S S' : List Addr} {w w' : World} (h : Fr S w w') (hs : ∀ p ∈ S, p ∈ S') : Fr S' w w' :=
  ⟨h.os, h.tape, h.output, h.size, fun k hk hn => h.block k hk (fun p hp => hn p (hs p hp)), fun p hp hn => h.cell p hp (fun e => hn (hs p e)), h.frozen⟩
theorem Fr.trans {S : List Addr} {w w' w'' : World} (h : Fr S w w') (h' : Fr S w' w'') : Fr S w w'' :=
  ⟨h'.os.trans h.os, h'.tape.trans h.tape, h'.output.trans h.output, Nat.le_trans h.size h'.size, fun k hk hn => (h'.block k (Nat.lt_of_lt_of_le hk h.size) hn).trans (h.block k hk hn),
    fun p hp hn => (h'.cell p (Nat.lt_of_lt_of_le hp h.size) hn).trans (h.cell p hp hn), fun p hp => (h'.frozen p (Nat.lt_of_lt_of_le hp h.size)).trans (h.frozen p hp)⟩
theorem Fr.set (w : World) (p : Addr) (v : Value) : Fr [p] w (w.setCell p v) :=
  ⟨rfl, rfl, rfl, by simp, fun k _ hn => heap_setCell_other _ _ _ _ (fun e => hn p (by simp) e.symm), fun q _ hn => World.cell?_setCell_other _ _ _ _ (fun e => hn (by simp [e])), fun q _ => by simp⟩
theorem Fr.of_below {S : List Addr} {w w' : World} (h : Below w.heap.size w w') : Fr S w w' :=
  ⟨h.os, h.tape, h.output, h.size, fun k hk _ => h.block k hk, fun _ hp _ => World.cell?_of_block (h.block _ hp), fun _ hp => World.frozen?_of_block (h.block _ hp)⟩
theorem Fr.drew {S : List Addr} {w w' : World} (h : Fr S w w') (q : Nat) : Fr S w (w'.drewN q) := ⟨h.os, h.tape, h.output, h.size, h.block, h.cell, h.frozen⟩
theorem Fr.below {S : List Addr} {w w' : World} {K : Nat} (h : Fr S w w') (hK : K ≤ w.heap.size) (hs : ∀ p ∈ S, K ≤ p.block) : Below K w w' :=
  ⟨h.os, h.tape, h.output, h.size, fun k hk => h.block k (by omega) (fun p hp e => by have := hs p hp; omega)⟩
/-- a reader: its box's first cell holds the bytes that are left, which lie below K -/
structure Rd (w : World) (K rb : Nat) (l : Bs) : Prop where
  ex : ∃ a n cap, w.cell? ⟨rb, 0, none⟩ = some (.slice a n cap) ∧ By w a n cap l ∧ (0 < n → ∀ ad, a = some ad → ad.block < K)
  fz : w.frozen? ⟨rb, 0, none⟩ = false
  lt : rb < w.heap.size
  lo : K ≤ rb
  len : l.length ≤ 4611686018427387904
theorem By.low {w w' : World} {K : Nat} {a : Option Addr} {n cap : Nat} {l : Bs} (h : By w a n cap l) (hk : 0 < n → ∀ ad, a = some ad → ad.block < K) (hb : Below K w w') : By w' a n cap l := by
  refine ⟨h.len, h.le, h.nil, ?_⟩
  rcases h.cells with h | ⟨b, off, e, hlt, hc⟩
  · exact .inl h
  · by_cases h0 : n = 0
    · exact .inl h0
    have hk2 := hk (by omega) _ e
    exact .inr ⟨b, off, e, Nat.lt_of_lt_of_le hlt hb.size, fun i hi => (World.cell?_of_block (hb.block b hk2)).trans (hc i hi)⟩
theorem Rd.fr {S : List Addr} {w w' : World} {K rb : Nat} {l : Bs} (h : Rd w K rb l) (hf : Fr S w w') (hn : (⟨rb, 0, none⟩ : Addr) ∉ S) (hs : ∀ p ∈ S, K ≤ p.block) : Rd w' K rb l := by
  obtain ⟨⟨a, n, cap, h1, h2, h3⟩, h4, h5, h6, h7⟩ := h
  exact ⟨⟨a, n, cap, (hf.cell _ h5 hn).trans h1, By.low h2 h3 (hf.below (by omega) hs), h3⟩, (hf.frozen _ h5).trans h4, Nat.lt_of_lt_of_le h5 hf.size, h6, h7⟩
theorem by_take {w : World} {a : Option Addr} {n cap : Nat} {l : Bs} (h : By w a n cap l) (k : Nat) (hk : k ≤ n) : By w a k cap (l.take k) := by
  refine ⟨by rw [List.length_take, h.len]; omega, by have := h.le; omega, fun e => ⟨by have := h.nil e; omega, (h.nil e).2⟩, ?_⟩
  rcases h.cells with h0 | ⟨b, off, e, hlt, hc⟩
  · exact .inl (by omega)
  · refine .inr ⟨b, off, e, hlt, fun i hi => ?_⟩
    rw [hc i (by omega)]
    simp [List.getD, List.getElem?_take_of_lt hi]

theorem by_drop {w : World} {a : Option Addr} {n cap : Nat} {l : Bs} (h : By w a n cap l) (k : Nat) (hk : k ≤ n) (hc : k < cap) : By w (Option.map (fun x => x.add k) a) (n - k) (cap - k) (l.drop k) := by
  refine ⟨by rw [List.length_drop, h.len], by have := h.le; omega, ?_, ?_⟩
  · intro e
    have : a = none := by cases a <;> simp at e ⊢
    have := h.nil this
    omega
  · rcases h.cells with h0 | ⟨b, off, rfl, hlt, hcs⟩
    · exact .inl (by omega)
    · by_cases h0 : n - k = 0
      · exact .inl h0
      refine .inr ⟨b, off + k, by simp [Addr.add_lit], hlt, fun i hi => ?_⟩
      rw [Nat.add_assoc, hcs (k + i) (by omega)]
      simp [List.getD, List.getElem?_drop]
theorem add_block (x : Addr) (k : Nat) : (x.add k).block = x.block := by
  unfold Addr.add
  split <;> rfl
theorem take_end (K rb k n cap : Nat) (a a' : Option Addr) (c' : Nat) (l : Bs) (w : World) (h1 : w.cell? ⟨rb, 0, none⟩ = some (.slice a n cap)) (h2 : By w a n cap l) (h3 : 0 < n → ∀ ad, a = some ad → ad.block < K)
    (h4 : w.frozen? ⟨rb, 0, none⟩ = false) (h5 : rb < w.heap.size) (h6 : K ≤ rb) (h7 : l.length ≤ 4611686018427387904) (hk : k ≤ n) (hB : By w a' (n - k) c' (l.drop k)) (hK : 0 < n - k → ∀ ad, a' = some ad → ad.block < K) :
    Fr [⟨rb, 0, none⟩] w (w.setCell ⟨rb, 0, none⟩ (.slice a' (n - k) c')) ∧ ∃ a0 c0, Ending.returned (.tuple #[.slice a k cap, .bool true]) = .returned (.tuple #[.slice a0 k c0, .bool true]) ∧ By (w.setCell ⟨rb, 0, none⟩ (.slice a' (n - k) c')) a0 k c0 (l.take k) ∧ Rd (w.setCell ⟨rb, 0, none⟩ (.slice a' (n - k) c')) K rb (l.drop k) ∧ (0 < k → ∀ ad, a0 = some ad → ad.block < K) := by
  have F := Fr.set w ⟨rb, 0, none⟩ (.slice a' (n - k) c')
  have hc := World.cell?_setCell_same w ⟨rb, 0, none⟩ (.slice a' (n - k) c') h1
  have hb : Below K w (w.setCell ⟨rb, 0, none⟩ (.slice a' (n - k) c')) := F.below (by omega) (by simp; omega)
  exact ⟨F, a, cap, rfl, by_take (By.low h2 h3 hb) k hk, ⟨⟨_, _, _, hc, By.low hB hK hb, hK⟩, (F.frozen _ h5).trans h4, Nat.lt_of_lt_of_le h5 F.size, h6, by rw [List.length_drop]; omega⟩, fun h0 => h3 (by omega)⟩
set_option maxHeartbeats 400000 in
set_option maxRecDepth 100000 in
theorem take_any (K rb k : Nat) (l : Bs) (w : World) (h : Rd w K rb l) (hk : k ≤ 4611686018427387904) :
    Calls Tryz.prog 153 #[.pointer (some ⟨rb, 0, none⟩), .int .i64 (k : Int)] w fun e w' => Fr [⟨rb, 0, none⟩] w w' ∧
      match takeP k l with
      | some (x, r) => ∃ a cap, e = .returned (.tuple #[.slice a k cap, .bool true]) ∧ By w' a k cap x ∧ Rd w' K rb r ∧ (0 < k → ∀ ad, a = some ad → ad.block < K)
      | none => e = .returned (.tuple #[.slice none 0 0, .bool false]) := by
  obtain ⟨⟨a, n, cap, h1, h2, h3⟩, h4, h5, h6, h7⟩ := h
  have hn : l.length = n := h2.len
  have H2 := hide h2
  clear h2
  unfold takeP
  rw [hn]
  by_cases hkn : k ≤ n
  · rw [if_pos hkn]
    have hkn' : ¬ (n : Int) < (k : Int) := by omega
    have hkc : k ≤ cap := Nat.le_trans hkn (unhide H2).le
    have hnc : n ≤ cap := (unhide H2).le
    by_cases hck : cap = k
    · have E := hide (take_end K rb k n cap a a 0 l w h1 (unhide H2) h3 h4 h5 h6 h7 hkn (by refine ⟨by rw [List.length_drop, hn], by omega, fun e => ⟨by omega, rfl⟩, .inl (by omega)⟩) (by omega))
      rw [hck] at E
      go_enter Tryz.func153, Tryz.ntmps153
      go_wp2_with fail
      go_ret2
      exact unhide E
    · have E := hide (take_end K rb k n cap a (Option.map (fun x => x.add k) a) (cap - k) l w h1 (unhide H2) h3 h4 h5 h6 h7 hkn (by_drop (unhide H2) k hkn (by omega)) (fun h0 ad e => by
        cases a with
        | none => simp at e
        | some x =>
          simp at e
          subst e
          have := h3 (by omega) x rfl
          rw [add_block]; exact this))
      go_enter Tryz.func153, Tryz.ntmps153
      go_wp2_with fail
      go_ret2
      exact unhide E
  · rw [if_neg hkn]
    have hkn' : (n : Int) < (k : Int) := by omega
    go_enter Tryz.func153, Tryz.ntmps153
    go_wp2_with fail
    go_ret2
    exact ⟨Fr.refl _ _, rfl⟩
/-- what number answers -/
def NumR (S : List Addr) (w : World) (K rb : Nat) (o : Option (Nat × Bs)) (e : Ending) (w' : World) : Prop := Fr S w w' ∧
  match o with
  | some (x, r) => e = .returned (.tuple #[.int .u64 (x : Int), .bool true]) ∧ Rd w' K rb r
  | none => e = .returned (.tuple #[.int .u64 0, .bool false])
theorem or_u64 (a b : Nat) (ha : a < 2 ^ 64) (hb : b < 2 ^ 64) : bits .or .u64 (a : Int) (b : Int) = ((a ||| b : Nat) : Int) := by
  have h := Nat.or_lt_two_pow ha hb
  show IntKind.u64.wrap ((BitVec.ofInt 64 (a : Int) ||| BitVec.ofInt 64 (b : Int)).toNat : Int) = _
  rw [BitVec.ofInt_natCast, BitVec.ofInt_natCast, BitVec.toNat_or, BitVec.toNat_ofNat, BitVec.toNat_ofNat, Nat.mod_eq_of_lt ha, Nat.mod_eq_of_lt hb]
  simp only [IntKind.wrap, IntKind.signed, IntKind.bits]
  simp only [Bool.false_eq_true, if_false, Bool.false_and]
  omega
theorem val_lt : ∀ l : Bs, val l < 256 ^ l.length
  | [] => by simp [val]
  | c :: l => by
    have h1 := val_lt l
    have h2 := c.toNat_lt
    rw [val, List.length_cons, Nat.pow_succ]
    omega
theorem val_snoc : ∀ (l : Bs) (c : UInt8), val (l ++ [c]) = val l + c.toNat * 256 ^ l.length
  | [], c => by simp [val]
  | d :: l, c => by
    rw [List.cons_append, val, val_snoc l c, val, List.length_cons, Nat.pow_succ, Nat.mul_add]
    have : 256 * (c.toNat * 256 ^ l.length) = c.toNat * (256 ^ l.length * 256) := by rw [Nat.mul_comm 256, Nat.mul_assoc]
    omega
theorem or_add (a c i : Nat) (ha : a < 256 ^ i) : a ||| c * 256 ^ i = a + c * 256 ^ i := by
  have e : (256 : Nat) ^ i = 2 ^ (8 * i) := by rw [Nat.pow_mul]
  rw [e] at ha ⊢
  rw [Nat.add_comm, Nat.mul_comm, Nat.two_pow_add_eq_or_of_lt ha, Nat.or_comm]
theorem wrap_u64 (z : Int) : IntKind.u64.wrap z = z % 18446744073709551616 := by
  simp only [IntKind.wrap, IntKind.signed, IntKind.bits]
  simp only [Bool.false_eq_true, if_false, Bool.false_and]
  rfl
theorem number_step (l : Bs) (i : Nat) (hi : i < l.length) (h8 : l.length ≤ 8) :
    bits .or .u64 ((val (l.take i) : Nat) : Int) (IntKind.u64.wrap (IntKind.u64.wrap (l[i].toNat : Int) * 2 ^ (8 * i))) = ((val (l.take (i + 1)) : Nat) : Int) := by
  have hc := l[i].toNat_lt
  have hv := val_lt (l.take i)
  rw [List.length_take, Nat.min_eq_left (by omega)] at hv
  have e : (256 : Nat) ^ i = 2 ^ (8 * i) := by rw [Nat.pow_mul]
  have hp : l[i].toNat * 256 ^ i < 2 ^ 64 := by
    have : 256 ^ i ≤ 256 ^ 7 := Nat.pow_le_pow_right (by omega) (by omega)
    have h2 : l[i].toNat * 256 ^ i ≤ 255 * 256 ^ 7 := Nat.mul_le_mul (by omega) this
    have h3 : 255 * 256 ^ 7 < 2 ^ 64 := by decide
    omega
  have hv2 : val (l.take i) < 2 ^ 64 := by
    have : 256 ^ i ≤ 256 ^ 7 := Nat.pow_le_pow_right (by omega) (by omega)
    have h3 : 256 ^ 7 < 2 ^ 64 := by decide
    omega
  have e2 : (l[i].toNat : Int) * 2 ^ (8 * i) % 18446744073709551616 = ((l[i].toNat * 256 ^ i : Nat) : Int) := by
    have e3 : (l[i].toNat : Int) * 2 ^ (8 * i) = ((l[i].toNat * 256 ^ i : Nat) : Int) := by rw [e]; push_cast; rfl
    rw [e3]
    generalize l[i].toNat * 256 ^ i = y at hp
    omega
  rw [wrap_u64 (l[i].toNat : Int), Int.emod_eq_of_lt (by omega) (by omega), wrap_u64, e2, or_u64 _ _ hv2 hp, or_add _ _ _ hv, List.take_succ_eq_append_getElem hi, val_snoc, List.length_take, Nat.min_eq_left (by omega)]
set_option maxHeartbeats 400000 in
set_option maxRecDepth 100000 in
theorem number_any (K rb k : Nat) (l : Bs) (w : World) (h : Rd w K rb l) (hk : k ≤ 8) :
    Calls Tryz.prog 141 #[.pointer (some ⟨rb, 0, none⟩), .int .i64 (k : Int)] w (NumR [⟨rb, 0, none⟩] w K rb (numN k l)) := by
  have hT := hide (take_any K rb k l w h (by omega))
  have hk8 : Hid (k ≤ 8) := hk
  unfold numN NumR
  cases hp : takeP k l with
  | none =>
    rw [hp] at hT
    simp only [Option.map_none]
    go_enter Tryz.func141, Tryz.ntmps141
    go_wp2_with fail
    refine (unhide hT).mono ?_
    rintro e w1 ⟨hF, rfl⟩
    have HF := hide hF
    clear hT hF
    go_wp2_with fail
    go_loopw [8, 19] (fun v8 v wr => v = .int .i64 0 ∧ v8 = .int .u64 0 ∧ wr = w1) (fun _ _ _ => 0)
    case atStart => exact ⟨rfl, rfl, rfl⟩
    case round =>
      obtain ⟨rfl, rfl, rfl⟩ := hrel
      go_wp2_with fail
      go_ret2
      exact ⟨unhide HF, rfl⟩
  | some p =>
    obtain ⟨x, r⟩ := p
    rw [hp] at hT
    simp only [Option.map_some]
    have hxl : x.length = k := by
      unfold takeP at hp
      split at hp
      · simp at hp; rw [← hp.1, List.length_take]; omega
      · simp at hp
    go_enter Tryz.func141, Tryz.ntmps141
    go_wp2_with fail
    refine (unhide hT).mono ?_
    rintro e w1 ⟨hF, a, cap, rfl, hB, hR, hlo⟩
    have HF := hide hF
    have HB := hide hB
    have HR := hide hR
    clear hT hF hB hR hlo hp h
    go_wp2_with fail
    go_loopw [8, 19] (fun v8 v wr => ∃ i : Nat, ∃ n : Nat, i ≤ k ∧ v = .int .i64 i ∧ v8 = .int .u64 (n : Int) ∧ Hid (n = val (x.take i)) ∧ wr = w1) (fun _ v _ => k - (intOf v).toNat)
    case atStart => exact ⟨0, 0, Nat.zero_le _, rfl, rfl, rfl, rfl⟩
    case round =>
      obtain ⟨i, n, hi, rfl, rfl, hn, rfl⟩ := hrel
      by_cases hlt : i < k
      · have hlt' : (i : Int) < (k : Int) := by omega
        have hil : i < x.length := by omega
        obtain ⟨b3, o3, rfl, _, hcs⟩ : ∃ b off, a = some ⟨b, off, none⟩ ∧ b < wr.heap.size ∧ ∀ i, i < k → wr.cell? ⟨b, off + i, none⟩ = some (.int .u8 ((x.getD i 0).toNat : Int)) := by
          rcases (unhide HB).cells with h | h
          · omega
          · exact h
        have hc := hcs i hlt
        rw [show x.getD i 0 = x[i] by simp [List.getD, List.getElem?_eq_getElem hil]] at hc
        have hS := number_step x i hil (by omega)
        rw [← unhide hn] at hS
        generalize x[i].toNat = d at *
        obtain ⟨m, hm⟩ : ∃ m, m = val (x.take (i + 1)) := ⟨_, rfl⟩
        rw [← hm] at hS
        have HM := hide hm
        clear hcs hm hn
        have h64 : (8 * (i : Int)) < 64 := by have := unhide hk8; omega
        go_wp2_with fail
        go_roundw
        case rel => exact ⟨i + 1, m, by omega, by go_num, by first | rw [hS] | rfl, HM, by simp⟩
        case measure => simp [intOf]; omega
      · obtain rfl : i = k := by omega
        rw [List.take_of_length_le (by omega)] at hn
        have hn' := unhide hn
        subst hn'
        go_wp2_with fail
        go_ret2
        exact ⟨unhide HF, rfl, unhide HR⟩
end Go.Proofs.YtbofidpoajdcmaaGreatDoor.Cd
