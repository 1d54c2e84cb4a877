/- A call that came in, opened. -/
import Derived.Test.YtbofidpoajdcmaaGreatDoorCdBackP
import Derived.ProofKit
import Derived.OpenShut
import Derived.SizedLaws
import Derived.Deep.Slices
import Derived.Deep.SlicePairs
import Derived.Lib.SmallJoins
namespace Go.Proofs.YtbofidpoajdcmaaGreatDoor.Cd
open Go.ChangeShapes Go.WideShapes Go.ChangeAt Go.RowKit Go.Deep Cu Tr

theorem cellsB : Tryz.prog.cellsOf 5 = 1 := by kernel_rfl
theorem cellsI : Tryz.prog.cellsOf 3 = 1 := by kernel_rfl
theorem cellsS : Tryz.prog.cellsOf 9 = 1 := by kernel_rfl
theorem cellsK : Tryz.prog.cellsOf 22 = 1 := by kernel_rfl
theorem cellsDB : Tryz.prog.cellsOf 23 = 1 := by kernel_rfl
theorem cellsEv : Tryz.prog.cellsOf 25 = 4 := by kernel_rfl
theorem cellsCall : Tryz.prog.cellsOf 27 = 12 := by kernel_rfl
theorem bytesB : Tryz.prog.bytesOf 5 = 1 := by kernel_rfl
theorem u8_back (n : Int) (h : (Lit.int .u8 n).wf = true) : ∃ c : UInt8, n = (c.toNat : Int) := by
  have h2 : 0 ≤ n ∧ n < 256 := by
    simp [Lit.wf] at h
    have h1 : IntKind.u8.min = 0 := by decide
    have h2 : IntKind.u8.max = 255 := by decide
    rw [h1, h2] at h
    omega
  refine ⟨UInt8.ofNat n.toNat, ?_⟩
  simp
  omega
theorem open_bytesC {H : Type} {enc : TypeId × Value → H} {W : World} {base fuel : Nat} {spare : Nat → Bool} {held : Bool} {cs : List Value} {x : DataW H × List MemPlace}
    (hf : DataW.trod enc Tryz.prog W base spare held fuel 23 cs = some x) (hz : ∀ n ∈ x.1.weights Tryz.prog 23, n ≤ reachBytes) :
    ∃ a len cap, cs = [.slice a len cap] ∧ ∃ l : Bs, By W a len cap l ∧ len ≤ reachBytes := by
  rcases open_slice Tryz.underlying23 hf with ⟨hcs, _⟩ | ⟨a', len, cap, m, n, D, Pl, hcs, _, hl, hm, hmm, hx, hc⟩
  · exact ⟨none, 0, 0, hcs, [], ⟨rfl, Nat.le_refl _, fun _ => ⟨rfl, rfl⟩, .inl rfl⟩, by simp [reachBytes]⟩
  · refine ⟨some a', len, cap, hcs, ?_⟩
    have hlm : len ≤ m := by rw [hmm]; split <;> omega
    have each : ∀ i, i < m → ∃ c : UInt8, W.cell? (a'.add i) = some (.int .u8 c.toNat) := by
      intro i hi
      obtain ⟨cs', h1, h2⟩ := hc i hi
      rw [cellsB] at h1
      obtain ⟨_, hlen, hcell⟩ := World.cells?_some h1
      match cs', hlen with
      | [u], _ =>
        obtain ⟨z, e0, _, w1⟩ := DataW.trod_int Tryz.underlying5 h2
        obtain ⟨c, rfl⟩ := u8_back z w1
        simp at e0
        subst e0
        refine ⟨c, ?_⟩
        have e := hcell 0 (by omega)
        rw [add_add] at e
        simpa using e
    haveI : Inhabited UInt8 := ⟨0⟩
    obtain ⟨q, hq⟩ := choose_lt each
    have hg : ∀ i, i < len → ((List.range len).map q).getD i 0 = q i := fun i hi => by simp [List.getD, hi]
    refine ⟨(List.range len).map q, ⟨by simp, hl, (by intro h; cases h), ?_⟩, ?_⟩
    · by_cases h0 : len = 0
      · exact .inl h0
      · right
        obtain ⟨b, off, spot⟩ := a'
        have hc0 := hq 0 (by omega)
        have hspot : spot = none := by simpa [Addr.add] using World.cell?_spot hc0
        subst hspot
        refine ⟨b, off, rfl, ?_, fun i hi => ?_⟩
        · simpa [Addr.add] using World.block_lt_of_cell? W _ hc0
        · have := hq i (by omega)
          rw [show (⟨b, off, none⟩ : Addr).add i = ⟨b, off + i, none⟩ by unfold Addr.add; split <;> simp_all] at this
          rw [hg i hi]; exact this
    · have hz' := hz
      rw [hx] at hz'
      have := hz' ((len + (m - len)) * Tryz.prog.bytesOf 5) (by simp [DataW.weights, Tryz.underlying23])
      rw [bytesB] at this
      omega
theorem reach_le : reachBytes ≤ 281474976710656 := by decide
theorem i64_in {n : Int} (h : (Lit.int .i64 n).wf = true) : inR n := by
  simp [Lit.wf] at h
  have h1 : IntKind.i64.min = -9223372036854775808 := by decide
  have h2 : IntKind.i64.max = 9223372036854775807 := by decide
  rw [h1] at h
  unfold inR
  omega
theorem open_ev {H : Type} {enc : TypeId × Value → H} {W : World} {base fuel : Nat} {spare : Nat → Bool} {held : Bool} {cs : List Value} {x : DataW H × List MemPlace} (hl : cs.length = 4)
    (hf : DataW.trod enc Tryz.prog W base spare held fuel 25 cs = some x) : ∃ a b c d : Int, cs = [.int .i64 a, .int .i64 b, .int .i64 c, .int .i64 d] ∧ inR a ∧ inR b ∧ inR c ∧ inR d := by
  match cs, hl with
  | [c0, c1, c2, c3], _ =>
    obtain ⟨xs, n, _, _, hl, hlen, hfl⟩ := DataW.trod_struct Tryz.underlying25 hf
    match xs, hlen with
    | [y0, y1, y2, y3], _ =>
      obtain ⟨a0, e0, _, w0⟩ := DataW.trod_int Tryz.underlying3 (hfl 0 _ rfl)
      obtain ⟨a1, e1, _, w1⟩ := DataW.trod_int Tryz.underlying3 (hfl 1 _ rfl)
      obtain ⟨a2, e2, _, w2⟩ := DataW.trod_int Tryz.underlying3 (hfl 2 _ rfl)
      obtain ⟨a3, e3, _, w3⟩ := DataW.trod_int Tryz.underlying3 (hfl 3 _ rfl)
      simp [cellsI] at e0 e1 e2 e3
      subst e0 e1 e2 e3
      exact ⟨a0, a1, a2, a3, rfl, i64_in w0, i64_in w1, i64_in w2, i64_in w3⟩
set_option maxRecDepth 100000 in
theorem open_call {H : Type} {enc : TypeId × Value → H} {W : World} {base : Nat} {spare : Nat → Bool} {held : Bool} {r : Reach} {b0 : Nat} {v : Value} {d : DataW H} {p : List MemPlace}
    (hval : Value.okWide Tryz.prog W r b0 27 v) (h : DataW.Trod enc Tryz.prog W base spare held 27 v d p) (hz : ∀ n ∈ d.weights Tryz.prog 27, n ≤ reachBytes) :
    ∃ (c : Ca) (a : Option Addr) (cap : Nat), v = cav c a cap ∧ By W a c.data.length cap c.data ∧ Wf c ∧ c.path.size ≤ 281474976710656 ∧ c.other.size ≤ 281474976710656 ∧ c.data.length ≤ 281474976710656 := by
  obtain ⟨cs, rfl, hsz⟩ := okWide_struct Tryz.underlying27 hval
  rw [cellsCall] at hsz
  obtain ⟨fuel, hf⟩ := h
  simp only [Value.cells] at hf
  obtain ⟨cs⟩ := cs
  simp only at hsz hf
  match cs, hsz with
  | [c0, c1, c2, c3, c4, c5, c6, c7, c8, c9, c10, c11], _ =>
    obtain ⟨xs, n, _, hx, hl, hlen, hfl⟩ := DataW.trod_struct Tryz.underlying27 hf
    match xs, hlen with
    | [y0, y1, y2, y3, y4, y5, y6, y7, y8], _ =>
      have hxd := congrArg Prod.fst hx
      simp only at hxd
      have h0 := hfl 0 _ rfl
      have h1 := hfl 1 _ rfl
      have h2 := hfl 2 _ rfl
      have h3 := hfl 3 _ rfl
      have h4 := hfl 4 _ rfl
      have h5 := hfl 5 _ rfl
      have h6 := hfl 6 _ rfl
      have h7 := hfl 7 _ rfl
      have h8 := hfl 8 _ rfl
      have hz1 : ∀ n ∈ y1.1.weights Tryz.prog 9, n ≤ reachBytes := fun k hk => hz k (by
        rw [hxd]; simp only [DataW.weights, Tryz.underlying27, DataW.weightsEach, List.map_cons, List.mem_append]; simp [hk])
      have hz2 : ∀ n ∈ y2.1.weights Tryz.prog 9, n ≤ reachBytes := fun k hk => hz k (by
        rw [hxd]; simp only [DataW.weights, Tryz.underlying27, DataW.weightsEach, List.map_cons, List.mem_append]; simp [hk])
      have hz7 : ∀ n ∈ y7.1.weights Tryz.prog 23, n ≤ reachBytes := fun k hk => hz k (by
        rw [hxd]; simp only [DataW.weights, Tryz.underlying27, DataW.weightsEach, List.map_cons, List.mem_append]; simp [hk])
      obtain ⟨a0, e0, _, w0⟩ := DataW.trod_int Tryz.underlying22 h0
      obtain ⟨p1, e1, t1, _⟩ := DataW.trod_string Tryz.underlying9 h1
      obtain ⟨p2, e2, t2, _⟩ := DataW.trod_string Tryz.underlying9 h2
      obtain ⟨a3, e3, _, w3⟩ := DataW.trod_int Tryz.underlying3 h3
      obtain ⟨a4, e4, _, w4⟩ := DataW.trod_int Tryz.underlying3 h4
      obtain ⟨a5, e5, _, w5⟩ := DataW.trod_int Tryz.underlying3 h5
      obtain ⟨a6, e6, _, w6⟩ := DataW.trod_int Tryz.underlying3 h6
      obtain ⟨da, dl, dc, e7, db, hby, hdl⟩ := open_bytesC (x := y7) h7 hz7
      obtain ⟨v0, v1, v2, v3, e8, i0, i1, i2, i3⟩ := open_ev (x := y8) (by simp [cellsEv]) h8
      obtain ⟨kd, rfl⟩ := u8_back a0 w0
      simp [cellsI, cellsK, cellsS, cellsDB, cellsEv] at e0 e1 e2 e3 e4 e5 e6 e7 e8
      obtain ⟨e8, e9, e10, e11⟩ := e8
      subst e0 e1 e2 e3 e4 e5 e6 e7 e8 e9 e10 e11
      obtain rfl := hby.len
      refine ⟨⟨kd, p1, p2, a3, a4, a5, a6, db, v0, v1, v2, v3⟩, da, dc, rfl, hby, ?_, ?_, ?_, Nat.le_trans hdl reach_le⟩
      · intro z hz
        simp only [List.mem_cons, List.not_mem_nil, or_false] at hz
        rcases hz with rfl | rfl | rfl | rfl | rfl | rfl | rfl | rfl
        · exact i64_in w3
        · exact i64_in w4
        · exact i64_in w5
        · exact i64_in w6
        · exact i0
        · exact i1
        · exact i2
        · exact i3
      · have := hz1 p1.data.toList.length (by rw [t1]; simp [DataW.weights])
        exact Nat.le_trans this reach_le
      · have := hz2 p2.data.toList.length (by rw [t2]; simp [DataW.weights])
        exact Nat.le_trans this reach_le
end Go.Proofs.YtbofidpoajdcmaaGreatDoor.Cd
