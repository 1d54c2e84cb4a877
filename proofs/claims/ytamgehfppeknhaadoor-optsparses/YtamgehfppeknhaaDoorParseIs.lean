/- opts.Parse, said by what it answers; SameTexts and SameFlags where the lists are the same. -/
import Derived.Test.YtamgehfppeknhaaDoorParseMain
import Derived.Deep.QuietTactic
import Derived.BigQuiet
namespace Go.Proofs.YtamgehfppeknhaaDoor.Pa
open Go.RowKit

/-- a list of flags: empty, or its letters and texts lie at b, off -/
structure Fx (w : World) (a : Option Addr) (n : Nat) (fl : Fl) : Prop where
  len : fl.length = n
  cells : n = 0 ∨ ∃ b off, a = some ⟨b, off, none⟩ ∧ b < w.heap.size ∧ ∀ i, i < n → w.cell? ⟨b, off + i * 2, none⟩ = some (.int .u8 (fl.getD i (0, ByteArray.empty)).1) ∧ w.cell? ⟨b, off + i * 2 + 1, none⟩ = some (.string (fl.getD i (0, ByteArray.empty)).2)
theorem Fx.below {w w' : World} {a : Option Addr} {n : Nat} {fl : Fl} (h : Fx w a n fl) (hb : Below w.heap.size w w') : Fx w' a n fl := by
  refine ⟨h.len, ?_⟩
  rcases h.cells with h | ⟨b, off, e, hlt, hc⟩
  · exact .inl h
  · exact .inr ⟨b, off, e, Nat.lt_of_lt_of_le hlt hb.size, fun i hi => ⟨(hb.cell hlt).trans (hc i hi).1, (hb.cell hlt).trans (hc i hi).2⟩⟩

theorem fcl_get (fl : Fl) (i : Nat) (h : i < fl.length) : (fcl fl)[i * 2]? = some (.int .u8 (fl.getD i (0, ByteArray.empty)).1) ∧ (fcl fl)[i * 2 + 1]? = some (.string (fl.getD i (0, ByteArray.empty)).2) := by
  induction fl generalizing i with
  | nil => simp at h
  | cons p l ih =>
    cases i with
    | zero => simp [fcl]
    | succ i =>
      have := ih i (by simpa using h)
      have e1 : (i + 1) * 2 = i * 2 + 1 + 1 := by omega
      rw [e1]
      simpa [fcl] using this

theorem fx_of_owns {w : World} {base : Nat} {v : Value} {fl : Fl} {e : TypeId} (h : w.ownsRow base e 2 v fl.length (fcl fl)) : ∃ a cap, v = .slice a fl.length cap ∧ Fx w a fl.length fl := by
  rcases h.2 with ⟨rfl, hn⟩ | ⟨g, cap, cur, rfl, hb, hg, rest⟩
  · exact ⟨none, 0, by rw [hn], rfl, .inl hn⟩
  · refine ⟨some ⟨g, 0, none⟩, cap, rfl, rfl, .inr ⟨g, 0, rfl, (h.lt g rfl).2, fun i hi => ?_⟩⟩
    have hc := h.cells (g := g) rfl
    obtain ⟨h1, h2⟩ := fcl_get fl i hi
    have e1 := hc _ _ h1
    have e2 := hc _ _ h2
    rw [add_none] at e1 e2
    rw [Nat.add_assoc]
    exact ⟨e1, e2⟩
theorem tx_of_owns {w : World} {base : Nat} {v : Value} {ss : List ByteArray} {e : TypeId} (h : w.ownsRow base e 1 v ss.length (ss.map Value.string)) : ∃ a cap, v = .slice a ss.length cap ∧ Tx w a ss.length cap ss := by
  rcases h.2 with ⟨rfl, hn⟩ | ⟨g, cap, cur, rfl, hb, hg, hle, rest⟩
  · exact ⟨none, 0, by rw [hn], rfl, by omega, fun _ => ⟨hn, rfl⟩, .inl hn⟩
  · refine ⟨some ⟨g, 0, none⟩, cap, rfl, rfl, hle, (by intro h; cases h), .inr ⟨g, 0, rfl, (h.lt g rfl).2, fun i hi => ?_⟩⟩
    have hc := h.cells (g := g) rfl i (.string (ss.getD i ByteArray.empty)) (by rw [List.getElem?_map, List.getElem?_eq_getElem hi]; simp [List.getD, List.getElem?_eq_getElem hi])
    rw [add_none] at hc
    exact hc

/-- what opts.Parse answers, by what the plain function says -/
theorem parse_is {which : ByteArray} {ss : List ByteArray} {fl : Fl} {rest : List ByteArray} {er : Int} (hp : parse which ss = (fl, rest, er)) (a : Option Addr) (n cap : Nat) (w : World) (hT : Tx w a n cap ss) (hs : which.size ≤ 4611686018427387900) (hn : n ≤ 4611686018427387900)
    (hss : ∀ s ∈ ss, s.size ≤ maxLen) (htot : (∀ s, ss.head? = some s → isOpt s.data.toList = true) → tot ss ≤ 4194304) :
    Calls Tryd.prog 7 #[.string which, .slice a n cap] w fun e w' => (∃ af cf at' ct, e = .returned (.tuple #[.slice af fl.length cf, .slice at' rest.length ct, .int .i64 er]) ∧ Fx w' af fl.length fl ∧ Tx w' at' rest.length ct rest) ∧ Below w.heap.size w w' := by
  refine (parse_any which a n cap ss w hT hs hn hss htot).mono fun e w' ⟨vf, vt, he, hf, ht, hb, _⟩ => ?_
  rw [hp] at he hf ht
  obtain ⟨af, cf, rfl, hF⟩ := fx_of_owns hf
  obtain ⟨at', ct, rfl, hTx⟩ := tx_of_owns ht
  exact ⟨⟨af, cf, at', ct, he, hF, hTx⟩, hb⟩

set_option maxHeartbeats 400000 in
theorem sameTexts_go (b1 o1 b2 o2 n c1 c2 : Nat) (ss : List ByteArray) (w : World) (hn : n ≤ 4611686018427387904)
    (h1 : ∀ i, i < n → w.cell? ⟨b1, o1 + i, none⟩ = some (.string (ss.getD i ByteArray.empty))) (h2 : ∀ i, i < n → w.cell? ⟨b2, o2 + i, none⟩ = some (.string (ss.getD i ByteArray.empty))) :
    Calls Tryd.prog 10 #[.slice (some ⟨b1, o1, none⟩) n c1, .slice (some ⟨b2, o2, none⟩) n c2] w fun e w' => e = .returned (.bool true) ∧ ∃ q, w' = w.drewN q := by
  go_enter Tryd.func10, Tryd.ntmps10
  go_wp2
  go_loopw [5] (fun i wr => ∃ k q : Nat, k ≤ n ∧ i = .int .i64 k ∧ wr = w.drewN q) (fun i _ => n - (intOf i).toNat)
  case atStart => exact ⟨0, 0, Nat.zero_le _, rfl, rfl⟩
  case round =>
    obtain ⟨k, q, hk, rfl, rfl⟩ := hrel
    by_cases hlt : k < n
    · have hlt' : (k : Int) < (n : Int) := by omega
      have hc1 := h1 k hlt
      have hc2 := h2 k hlt
      obtain ⟨x, hx⟩ : ∃ x, x = ss.getD k ByteArray.empty := ⟨_, rfl⟩
      rw [← hx] at hc1 hc2
      clear hx
      go_wp2
      go_quiet (fail)
      go_wp2
      go_roundw
      case rel => exact ⟨k + 1, q + nq, by omega, by go_num, rfl⟩
      case measure => simp [intOf]; omega
    · go_wp2
      go_ret
      exact ⟨rfl, q, rfl⟩

theorem drewN_below (w : World) (q : Nat) : Below w.heap.size w (w.drewN q) := ⟨rfl, rfl, rfl, Nat.le_refl _, fun _ _ => rfl⟩

set_option maxHeartbeats 400000 in
theorem sameTexts_none (a b : Option Addr) (c1 c2 : Nat) (w : World) :
    Calls Tryd.prog 10 #[.slice a 0 c1, .slice b 0 c2] w fun e w' => e = .returned (.bool true) ∧ w' = w := by
  go_enter Tryd.func10, Tryd.ntmps10
  go_wp2
  refine wp_loop_rounds 1 ?_
  rw [rounds_succ]
  go_wp2
  go_ret
  exact ⟨rfl, rfl⟩

theorem sameTexts_any (a b : Option Addr) (n c1 c2 c1' c2' : Nat) (ss : List ByteArray) (w : World) (hn : n ≤ 4611686018427387904) (h1 : Tx w a n c1' ss) (h2 : Tx w b n c2' ss) :
    Calls Tryd.prog 10 #[.slice a n c1, .slice b n c2] w fun e w' => e = .returned (.bool true) ∧ Below w.heap.size w w' := by
  rcases h1.cells with rfl | ⟨b1, o1, rfl, _, hc1⟩
  · exact (sameTexts_none a b c1 c2 w).mono fun e w' ⟨h1, h2⟩ => ⟨h1, h2 ▸ Below.refl _ _⟩
  · rcases h2.cells with rfl | ⟨b2, o2, rfl, _, hc2⟩
    · exact (sameTexts_none _ b c1 c2 w).mono fun e w' ⟨h1, h2⟩ => ⟨h1, h2 ▸ Below.refl _ _⟩
    · exact (sameTexts_go b1 o1 b2 o2 n c1 c2 ss w hn hc1 hc2).mono fun e w' ⟨h1, q, h2⟩ => ⟨h1, h2 ▸ drewN_below w q⟩

set_option maxHeartbeats 400000 in
theorem sameFlags_go (b1 o1 b2 o2 n c1 c2 : Nat) (fl : Fl) (w : World) (hn : n ≤ 4611686018427387904)
    (h1 : ∀ i, i < n → w.cell? ⟨b1, o1 + i * 2, none⟩ = some (.int .u8 (fl.getD i (0, ByteArray.empty)).1) ∧ w.cell? ⟨b1, o1 + i * 2 + 1, none⟩ = some (.string (fl.getD i (0, ByteArray.empty)).2))
    (h2 : ∀ i, i < n → w.cell? ⟨b2, o2 + i * 2, none⟩ = some (.int .u8 (fl.getD i (0, ByteArray.empty)).1) ∧ w.cell? ⟨b2, o2 + i * 2 + 1, none⟩ = some (.string (fl.getD i (0, ByteArray.empty)).2)) :
    Calls Tryd.prog 9 #[.slice (some ⟨b1, o1, none⟩) n c1, .slice (some ⟨b2, o2, none⟩) n c2] w fun e w' => e = .returned (.bool true) ∧ ∃ q, w' = w.drewN q := by
  go_enter Tryd.func9, Tryd.ntmps9
  go_wp2
  go_loopw [5] (fun i wr => ∃ k q : Nat, k ≤ n ∧ i = .int .i64 k ∧ wr = w.drewN q) (fun i _ => n - (intOf i).toNat)
  case atStart => exact ⟨0, 0, Nat.zero_le _, rfl, rfl⟩
  case round =>
    obtain ⟨k, q, hk, rfl, rfl⟩ := hrel
    by_cases hlt : k < n
    · have hlt' : (k : Int) < (n : Int) := by omega
      have hc1 := (h1 k hlt).1
      have hc2 := (h2 k hlt).1
      have hd1 := (h1 k hlt).2
      have hd2 := (h2 k hlt).2
      obtain ⟨x, hx⟩ : ∃ x, x = fl.getD k (0, ByteArray.empty) := ⟨_, rfl⟩
      rw [← hx] at hc1 hc2 hd1 hd2
      obtain ⟨x1, x2⟩ := x
      clear hx
      simp only at hc1 hc2 hd1 hd2
      go_wp2
      go_quiet (fail)
      go_wp2
      go_roundw
      case rel => exact ⟨k + 1, q + nq, by omega, by go_num, rfl⟩
      case measure => simp [intOf]; omega
    · go_wp2
      go_ret
      exact ⟨rfl, q, rfl⟩

set_option maxHeartbeats 400000 in
theorem sameFlags_none (a b : Option Addr) (c1 c2 : Nat) (w : World) :
    Calls Tryd.prog 9 #[.slice a 0 c1, .slice b 0 c2] w fun e w' => e = .returned (.bool true) ∧ w' = w := by
  go_enter Tryd.func9, Tryd.ntmps9
  go_wp2
  refine wp_loop_rounds 1 ?_
  rw [rounds_succ]
  go_wp2
  go_ret
  exact ⟨rfl, rfl⟩

theorem sameFlags_any (a b : Option Addr) (n c1 c2 : Nat) (fl : Fl) (w : World) (hn : n ≤ 4611686018427387904) (h1 : Fx w a n fl) (h2 : Fx w b n fl) :
    Calls Tryd.prog 9 #[.slice a n c1, .slice b n c2] w fun e w' => e = .returned (.bool true) ∧ Below w.heap.size w w' := by
  rcases h1.cells with rfl | ⟨b1, o1, rfl, _, hc1⟩
  · exact (sameFlags_none a b c1 c2 w).mono fun e w' ⟨h1, h2⟩ => ⟨h1, h2 ▸ Below.refl _ _⟩
  · rcases h2.cells with rfl | ⟨b2, o2, rfl, _, hc2⟩
    · exact (sameFlags_none _ b c1 c2 w).mono fun e w' ⟨h1, h2⟩ => ⟨h1, h2 ▸ Below.refl _ _⟩
    · exact (sameFlags_go b1 o1 b2 o2 n c1 c2 fl w hn hc1 hc2).mono fun e w' ⟨h1, q, h2⟩ => ⟨h1, h2 ▸ drewN_below w q⟩
end Go.Proofs.YtamgehfppeknhaaDoor.Pa
