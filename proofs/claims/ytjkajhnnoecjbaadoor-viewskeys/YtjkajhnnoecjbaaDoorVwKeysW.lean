/- The law ViewsKeys' walk. -/
import Derived.Test.YtjkajhnnoecjbaaDoorVwKeysP
import Derived.Test.YtjkajhnnoecjbaaDoorVwAlive
import Derived.Test.YtjkajhnnoecjbaaDoorVwArr
import Derived.Maps.AppendAt
set_option linter.unusedVariables false
namespace Go.Proofs.YtjkajhnnoecjbaaDoor.Vw
open Go.RowKit Cu
open Pa (Tx tot)

/-- a list of bytes that came in: empty, or its cells lie at b, off -/
structure By (w : World) (a : Option Addr) (n cap : Nat) (l : Bs) : Prop where
  len : l.length = n
  le : n ≤ cap
  nil : a = none → n = 0 ∧ cap = 0
  cells : n = 0 ∨ ∃ b off, a = some ⟨b, off, none⟩ ∧ b < w.heap.size ∧ ∀ i, i < n → w.cell? ⟨b, off + i, none⟩ = some (.int .u8 ((l.getD i 0).toNat : Int))
theorem By.below {w w' : World} {a : Option Addr} {n cap : Nat} {l : Bs} (h : By w a n cap l) (hb : Below w.heap.size w w') : By w' a n cap l := by
  refine ⟨h.len, h.le, h.nil, ?_⟩
  rcases h.cells with h | ⟨b, off, e, hlt, hc⟩
  · exact .inl h
  · exact .inr ⟨b, off, e, Nat.lt_of_lt_of_le hlt hb.size, fun i hi => (hb.cell hlt).trans (hc i hi)⟩
theorem take_snocB (l : Bs) (k : Nat) (h : k < l.length) : l.take (k + 1) = l.take k ++ [l.getD k 0] := by
  rw [List.take_succ_eq_append_getElem h]; simp [List.getD, List.getElem?_eq_getElem h]
def zi : UInt8 → Value := fun _ => .int .i64 0
theorem Tryd.infoArrI : (Tryd.prog.info? 50).map (fun i => (i.zero, i.size)) = some (some (.agg (tab zi)), 256) := by kernel_rfl
/-- how often each byte stands there -/
def fc (l : Bs) : UInt8 → Value := fun c => .int .i64 (cntN l c.toNat : Int)
theorem Tryd.infoS : (Tryd.prog.info? 9).map (fun i => (i.zero, i.size, i.bytes)) = some (some (.string ByteArray.empty), 1, 16) := by kernel_rfl
/-- rows that do not lie in the same block -/
def Ap (v v' : Value) : Prop := ∀ k, v.ownBlock = some k → v'.ownBlock ≠ some k
theorem Ap.symm {v v' : Value} (h : Ap v v') : Ap v' v := fun k h1 h2 => h k h2 h1
theorem str_one (x : ByteArray) : ∀ u ∈ [Value.string x], u.oneCell' = true := by
  intro u hu; simp at hu; subst hu; rfl
theorem conv_two (c d : UInt8) (w : World) : (convert 49 9 (.slice (some ⟨w.heap.size, 0, none⟩) 2 2)).run Tryd.prog (w.alloc (.cells #[.int .u8 (c.toNat : Int), .int .u8 (d.toNat : Int)] 5)) = .ok (.string (bt [c, d])) (w.alloc (.cells #[.int .u8 (c.toNat : Int), .int .u8 (d.toNat : Int)] 5)) := by
  refine run_convert_bytes_back _ 49 9 5 ⟨w.heap.size, 0, none⟩ 2 [c, d] Tryd.underlying49 Tryd.underlying5 Tryd.underlying9 ?_
  intro j hj
  have hj2 : j < 2 := hj
  rw [add_at, Lib.cell_of_heap (heap_alloc_new w _)]
  match j, hj2 with
  | 0, _ => rfl
  | 1, _ => rfl
theorem rowT_below {w w' : World} {B : Nat} {v : Value} {l : List Bs} (h : RowT B v l w) (hb : Below w.heap.size w w') : RowT B v l w' :=
  h.kept (row := none) ⟨hb.os, hb.tape, hb.output, hb.size, fun k hk _ => hb.block k hk⟩ (by cases v.ownBlock <;> simp)
theorem rowT_snoc {w : World} {B : Nat} {v : Value} {l : List Bs} {x : Bs} (h : w.ownsRow B 9 1 v (l.length + 1) ((l.map fun x => Value.string (bt x)) ++ [.string (bt x)])) : RowT B v (l ++ [x]) w := by
  simpa [RowT] using h
/-- what stays of another row -/
theorem rowT_grown {w w' : World} {B : Nat} {v v2 : Value} {l : List Bs} (h : RowT B v2 l w) (hg : w.grownBy w' v.ownBlock) (hap : Ap v v2) : RowT B v2 l w' := by
  refine h.kept hg ?_
  cases e : v2.ownBlock with
  | none => exact .inl rfl
  | some k => exact .inr (fun e2 => hap k e2.symm e)
theorem ap_new {w : World} {B : Nat} {v v' v2 : Value} {l : List Bs} (h2 : RowT B v2 l w) (o : Obj) (loc : v'.ownBlock = v.ownBlock ∨ v'.ownBlock = some (w.alloc o).heap.size) (h : Ap v v2) : Ap v' v2 := by
  intro k h1 e
  rcases loc with h3 | h3
  · exact h k (h3.symm.trans h1) e
  · rw [h3] at h1
    have h4 := Option.some.inj h1
    have h5 := (h2.lt k e).2
    rw [World.size_alloc] at h4
    omega
theorem arr_grown {w w' : World} {B g : Nat} {v : Value} {l : List Bs} {t : TypeId} {f : UInt8 → Value} (h : RowT B v l w) (hA : Arr w g t f) (hg : w.grownBy w' v.ownBlock) (hgB : g < B) : Arr w' g t f :=
  (hg.block g hA.lt (fun e => by have := (h.lt g e.symm).1; omega)).trans hA

set_option maxRecDepth 100000 in
set_option maxHeartbeats 1000000 in
theorem viewsKeys_any (a : Option Addr) (n cap : Nat) (l : Bs) (w : World) (hY : By w a n cap l) (hn : n ≤ 4611686018427387904) (hT : Tz w) :
    Calls Tryd.prog 5 #[.slice a n cap] w fun e w' => e = .returned (.bool true) ∧ Below w.heap.size w w' := by
  have AL : Hid (∀ W, Below w.heap.size w W → Calls Tryd.prog 16 #[] W fun e w' => e = .returned (.bool true) ∧ Below W.heap.size W w') := fun W hW => alive_any W (hT.below hW)
  have HY := hide hY
  clear hY
  by_cases h300 : 200 < n
  · have h300' : (200 : Int) < (n : Int) := by omega
    go_enter Tryd.func5, Tryd.ntmps5
    go_wp2_with fail
    refine (unhide AL _ (Below.refl _ _)).mono ?_
    rintro e w1 ⟨rfl, b1⟩
    go_wp2_with fail
    refine (unhide AL _ b1).mono ?_
    rintro e w3 ⟨rfl, b3⟩
    go_wp2_with fail
    go_ret
    exact ⟨rfl, b1.trans (b3.mono b1.size)⟩
  have h300' : ¬ (200 : Int) < (n : Int) := by omega
  obtain ⟨hzero, hinf⟩ := zero_of_info Tryd.infoArrI
  obtain ⟨z, hz⟩ : ∃ z, z = tab zi := ⟨_, rfl⟩
  rw [← hz] at hzero
  have HI := hide hinf
  have HZ := hide hz
  clear hz hinf
  go_enter Tryd.func5, Tryd.ntmps5
  go_wp2_with fail
  refine (unhide AL _ (Below.refl _ _)).mono ?_
  rintro e w1 ⟨rfl, b1⟩
  have B1 := hide b1
  have HY1 := hide ((unhide HY).below b1)
  clear b1 HY AL
  go_wp2_with fail
  have hA0 : Hid (Arr (w1.alloc (.cells z 50)) w1.heap.size 50 zi) := by
    rw [unhide HZ]
    exact heap_alloc_new w1 _
  have hb0 : Hid (Below w1.heap.size w1 (w1.alloc (.cells z 50))) := (Below.refl _ _).alloc (Nat.le_refl _) _
  go_loopw [4] (fun i wr => ∃ k : Nat, k ≤ n ∧ i = .int .i64 k ∧ Hid (Arr wr w1.heap.size 50 (fc (l.take k))) ∧ Hid (Below w1.heap.size w1 wr)) (fun i _ => n - (intOf i).toNat)
  case atStart => exact ⟨0, Nat.zero_le _, rfl, (unhide hA0).eq (fun c => by simp [zi, fc, cntN]), hb0⟩
  case round =>
    clear hA0 hb0 hzero
    obtain ⟨k, hk, rfl, hA, hnx⟩ := hrel
    by_cases hlt : k < n
    · have hlt' : (k : Int) < (n : Int) := by omega
      obtain ⟨b, off, rfl, hbl, hcs⟩ : ∃ b off, a = some ⟨b, off, none⟩ ∧ b < w1.heap.size ∧ ∀ i, i < n → w1.cell? ⟨b, off + i, none⟩ = some (.int .u8 ((l.getD i 0).toNat : Int)) := by
        rcases (unhide HY1).cells with h | h
        · omega
        · exact h
      have hc := ((unhide hnx).cell (p := ⟨b, off + k, none⟩) hbl).trans (hcs k hlt)
      have hts := hide (take_snocB l k (by rw [(unhide HY1).len]; exact hlt))
      obtain ⟨c, hcc⟩ : ∃ c, c = l.getD k 0 := ⟨_, rfl⟩
      rw [← hcc] at hc hts
      have h256 : (c.toNat : Int) < 256 := by have := c.toNat_lt; omega
      have h0 : (0 : Int) ≤ (c.toNat : Int) := by omega
      have hcell : wr.cell? ⟨w1.heap.size, c.toNat, none⟩ = some (.int .i64 (cntN (l.take k) c.toNat : Int)) := (unhide hA).cell c
      have hfz := (unhide hA).frozen c.toNat
      have hle : cntN (l.take k) c.toNat ≤ 200 := by
        have h1 := cntN_le (l.take k) c.toNat
        rw [List.length_take] at h1
        omega
      have hA2 : Hid (Arr (wr.setCell ⟨w1.heap.size, c.toNat, none⟩ (.int .i64 ((cntN (l.take k) c.toNat : Int) + 1))) w1.heap.size 50 (fc (l.take (k + 1)))) := by
        refine ((unhide hA).set c _).eq (fun d => ?_)
        rw [unhide hts]
        unfold fc
        rw [cntN_snoc]
        by_cases e : d = c
        · subst e; simp
        · have : ¬ c.toNat = d.toNat := fun h => e (UInt8.toNat_inj.1 h.symm)
          simp [e, this]
      generalize cntN (l.take k) c.toNat = q at *
      have hb2 : Hid (Below w1.heap.size w1 (wr.setCell ⟨w1.heap.size, c.toNat, none⟩ (.int .i64 ((q : Int) + 1)))) := (unhide hnx).setCell (p := ⟨w1.heap.size, c.toNat, none⟩) (Nat.le_refl _) _
      clear hcs hcc hts
      go_wp2_with fail
      go_roundw
      case rel => exact ⟨k + 1, by omega, by go_num, hA2, hb2⟩
      case measure => simp [intOf]; omega
    · have hlt' : ¬ (k : Int) < (n : Int) := by omega
      have hkn : Hid (l.take k = l) := List.take_of_length_le (by rw [(unhide HY1).len]; omega)
      rw [unhide hkn] at hA
      have hll : l.length ≤ 200 := by rw [(unhide HY1).len]; omega
      clear hkn
      have hKl : Hid (∀ k, (keysTo (cntN l) k).length ≤ 200) := fun k => Nat.le_trans (keysTo_le l k) hll
      have hKq : Hid (∀ k, (keysTo (fun n => cntN l n * cntN l n) k).length ≤ 40000) := fun k => by
        have h1 := keysTo_sq l hll k
        have h2 := Nat.le_trans (keysTo_le l k) hll
        omega
      have hKm : Hid (∀ k, cntN l k ≤ 200) := fun k => Nat.le_trans (cntN_le l k) hll
      have hJ := hide (join_keys (cntN l) (unhide hKl 256))
      have hAc : Hid (∀ (W : World) (c : UInt8), Arr W w1.heap.size 50 (fc l) → W.cell? ⟨w1.heap.size, c.toNat, none⟩ = some (.int .i64 (cntN l c.toNat : Int))) := fun W c h => h.cell c
      generalize fc l = F at *
      generalize cntN l = m at *
      have hbig := (unhide hA).lt
      obtain ⟨i0, hi, hz0, hz1, hz2⟩ := info_parts Tryd.infoS
      have hwr := hide hnx
      have hW0 := hnx
      clear hnx hwr
      go_wp2_with fail
      go_loopw [5, 6, 7] (fun v5 v6 v7 wr => ∃ (va vw : Value) (k : Nat), k ≤ 256 ∧ va = v5 ∧ vw = v6 ∧ v7 = .int .i64 k ∧ Hid (RowT (w1.heap.size + 1) va (keysTo m k) wr) ∧ Hid (RowT (w1.heap.size + 1) vw (keysTo (fun n => m n * m n) k) wr) ∧ Hid (Ap va vw) ∧ Hid (Arr wr w1.heap.size 50 F) ∧ Hid (Below w1.heap.size w1 wr)) (fun _ _ v7 _ => 256 - (intOf v7).toNat)
      case atStart => exact ⟨_, _, 0, by omega, rfl, rfl, rfl, World.ownsRow_nil _ _ _ _, World.ownsRow_nil _ _ _ _, (fun k h => by simp [Value.ownBlock] at h), hA, hW0⟩
      case round =>
        clear hA hW0 hbig
        obtain ⟨va, vw, k, hk, rfl, rfl, rfl, hRa, hRw, hAp, hA, hB⟩ := hrel
        have hbig := (unhide hA).lt
        have hsz := (unhide hB).size
        by_cases hlt : k < 256
        · have hlt' : (k : Int) < 256 := by omega
          obtain ⟨q, hq⟩ : ∃ q, q = k / 16 := ⟨_, rfl⟩
          obtain ⟨r, hr⟩ : ∃ r, r = k % 16 := ⟨_, rfl⟩
          have hq1 : (k : Int) / 16 = (q : Int) := by omega
          have hr1 : (k : Int) % 16 = (r : Int) := by omega
          have hq2 : q < 16 := by omega
          have hr2 : r < 16 := by omega
          have hq3 : (q : Int) < 256 := by omega
          have hr3 : (r : Int) < 256 := by omega
          have hcv : (convert 49 9 (.slice (some ⟨wr.heap.size, 0, none⟩) 2 2)).run Tryd.prog (wr.alloc (.cells #[.int .u8 (97 + (q : Int)), .int .u8 (97 + (r : Int))] 5)) = .ok (.string (bt (keyN k))) (wr.alloc (.cells #[.int .u8 (97 + (q : Int)), .int .u8 (97 + (r : Int))] 5)) := by
            have h := conv_two (UInt8.ofNat (97 + k / 16)) (UInt8.ofNat (97 + k % 16)) wr
            have e1 : ((UInt8.ofNat (97 + k / 16)).toNat : Int) = 97 + (q : Int) := by rw [UInt8.toNat_ofNat']; omega
            have e2 : ((UInt8.ofNat (97 + k % 16)).toNat : Int) = 97 + (r : Int) := by rw [UInt8.toNat_ofNat']; omega
            rw [e1, e2] at h
            exact h
          clear hq hr
          have hoff : Hid (∀ W, Arr W w1.heap.size 50 F → W.cell? ⟨w1.heap.size, k, none⟩ = some (.int .i64 (m k : Int))) := fun W h => by
            have h1 := unhide hAc W (UInt8.ofNat k) h
            have e : (UInt8.ofNat k).toNat = k := by rw [UInt8.toNat_ofNat']; omega
            rw [e] at h1
            exact h1
          have hk1 := hide (keysTo_succ m k)
          have hk2 := hide (keysTo_succ (fun n => m n * m n) k)
          have hl1 := unhide hKl k
          have hl2 := unhide hKq k
          have hmk := unhide hKm k
          obtain ⟨X, hX⟩ : ∃ X, X = bt (keyN k) := ⟨_, rfl⟩
          rw [← hX] at hcv
          generalize keysTo m k = P at *
          generalize keysTo (fun n => m n * m n) k = Q at *
          obtain ⟨sq, hsq⟩ : ∃ sq, sq = m k * m k := ⟨_, rfl⟩
          have hsq0 : (m k : Int) * (m k : Int) = (sq : Int) := by rw [hsq]; exact (Int.natCast_mul _ _).symm
          have hsq2 : sq ≤ 40000 := by rw [hsq]; exact Nat.mul_le_mul hmk hmk
          have hk2' : Hid (keysTo (fun n => m n * m n) (k + 1) = Q ++ List.replicate sq (keyN k)) := by rw [hsq]; exact hk2
          generalize m k = mk at *
          clear hsq hk2
          have HX := hide hX
          clear hX
          generalize hO : Obj.cells #[Value.int .u8 (97 + (q : Int)), Value.int .u8 (97 + (r : Int))] 5 = o at *
          have b0 : Below wr.heap.size wr (wr.alloc o) := (Below.refl _ _).alloc (Nat.le_refl _) _
          have hRa0 := hide (rowT_below (unhide hRa) b0)
          have hRw0 := hide (rowT_below (unhide hRw) b0)
          have hA0 := hide ((unhide hA).below b0)
          have hB0 : Hid (Below w1.heap.size w1 (wr.alloc o)) := (unhide hB).alloc (by omega) _
          clear hRa hRw hA hB b0
          subst hO
          go_wp2_with fail
          clear hq1 hr1 hq3 hr3 hq2 hr2 hcv
          go_loopw [5, 9] (fun v5 v9 wr => ∃ (va : Value) (j : Nat), j ≤ mk ∧ va = v5 ∧ v9 = .int .i64 j ∧ Hid (RowT (w1.heap.size + 1) va (P ++ List.replicate j (keyN k)) wr) ∧ Hid (RowT (w1.heap.size + 1) vw Q wr) ∧ Hid (Ap va vw) ∧ Hid (Arr wr w1.heap.size 50 F) ∧ Hid (Below w1.heap.size w1 wr)) (fun _ v9 _ => mk - (intOf v9).toNat)
          case atStart => exact ⟨_, 0, by omega, rfl, rfl, by rw [List.replicate_zero, List.append_nil]; exact hRa0, hRw0, hAp, hA0, hB0⟩
          case round =>
            clear hRa0 hRw0 hA0 hB0 hAp hbig
            obtain ⟨va, j, hj, rfl, rfl, hRa, hRw, hAp, hA, hB⟩ := hrel
            have hbig := (unhide hA).lt
            have hsz2 := (unhide hB).size
            have hcell := unhide hoff wr (unhide hA)
            by_cases hjm : j < mk
            · have hjm' : (j : Int) < (mk : Int) := by omega
              obtain ⟨P1, hP1⟩ : ∃ P1, P1 = P ++ List.replicate j (keyN k) := ⟨_, rfl⟩
              have hP1l : P1.length ≤ 400 := by rw [hP1, List.length_append, List.length_replicate]; omega
              have hP2 : Hid (P ++ List.replicate (j + 1) (keyN k) = P1 ++ [keyN k]) := by
                show _ = _
                rw [hP1, List.replicate_succ', List.append_assoc]
              rw [← hP1] at hRa
              clear hP1
              go_wp2_with (at_builtin; refine wpList_append_own_at _ rfl _ _ 25 rfl (w1.heap.size + 1) 9 i0 _ 1 16 Tryd.underlying25 hi hz0 hz1 hz2 rfl (by decide) _ _ _ rfl ((unhide hRa).alloc _) ⟨_, 0, none⟩ 1 1 [.string X] rfl rfl (byte_new _ _ _) (str_one _) (by unfold maxLen; omega) (by omega) (by rw [World.size_alloc]; omega) ?_)
              intro v2 w7 hO7 hg7 _ hloc
              have hR7 : Hid (RowT (w1.heap.size + 1) v2 (P ++ List.replicate (j + 1) (keyN k)) w7) := by
                rw [unhide hP2]
                rw [unhide HX] at hO7
                exact rowT_snoc hO7
              have hg7' := grown_alloc hg7
              have hRw7 := hide (rowT_grown (unhide hRw) hg7' (unhide hAp))
              have hAp7 : Hid (Ap v2 vw) := ap_new (unhide hRw) (.cells #[.string X] 9) (by simpa using hloc) (unhide hAp)
              have hA7 := hide (arr_grown (unhide hRa) (unhide hA) hg7' (Nat.lt_succ_self w1.heap.size))
              have hB7 : Hid (Below w1.heap.size w1 w7) := (unhide hB).grown hg7' (by omega) (fun z ez => by have := ((unhide hRa).lt z ez).1; omega)
              clear hO7 hg7 hg7' hloc hRa hRw hAp hA hB hcell
              go_wp2_with fail
              go_roundw
              case rel => exact ⟨_, j + 1, by omega, rfl, by go_num, hR7, hRw7, hAp7, hA7, hB7⟩
              case measure => simp [intOf]; omega
            · have hjm' : ¬ (j : Int) < (mk : Int) := by omega
              obtain rfl : j = mk := by omega
              rw [← unhide hk1] at hRa
              go_wp2_with fail
              clear hk1 hcell hj hjm hjm'
              go_loopw [6, 10] (fun v6 v10 wr => ∃ (vw : Value) (i : Nat), i ≤ sq ∧ vw = v6 ∧ v10 = .int .i64 i ∧ Hid (RowT (w1.heap.size + 1) va (keysTo m (k + 1)) wr) ∧ Hid (RowT (w1.heap.size + 1) vw (Q ++ List.replicate i (keyN k)) wr) ∧ Hid (Ap va vw) ∧ Hid (Arr wr w1.heap.size 50 F) ∧ Hid (Below w1.heap.size w1 wr)) (fun _ v10 _ => sq - (intOf v10).toNat)
              case atStart => exact ⟨_, 0, by omega, rfl, rfl, hRa, by rw [List.replicate_zero, List.append_nil]; exact hRw, hAp, hA, hB⟩
              case round =>
                clear hRa hRw hA hB hAp hbig hsz2
                obtain ⟨vw, i, hi1, rfl, rfl, hRa, hRw, hAp, hA, hB⟩ := hrel
                have hbig := (unhide hA).lt
                have hsz2 := (unhide hB).size
                have hcell := unhide hoff wr (unhide hA)
                have hjj : (j : Int) * (j : Int) ≤ 40000 := by omega
                by_cases hjm : i < sq
                · have hjm' : (i : Int) < (sq : Int) := by omega
                  obtain ⟨P1, hP1⟩ : ∃ P1, P1 = Q ++ List.replicate i (keyN k) := ⟨_, rfl⟩
                  have hP1l : P1.length ≤ 80000 := by rw [hP1, List.length_append, List.length_replicate]; omega
                  have hP2 : Hid (Q ++ List.replicate (i + 1) (keyN k) = P1 ++ [keyN k]) := by
                    show _ = _
                    rw [hP1, List.replicate_succ', List.append_assoc]
                  rw [← hP1] at hRw
                  clear hP1
                  go_wp2_with fail
                  go_quiet (fail)
                  rename_i nq
                  have bq := below_drew wr nq
                  have hRa1 := hide (rowT_below (unhide hRa) bq)
                  have hRw1 := hide (rowT_below (unhide hRw) bq)
                  have hA1 := hide ((unhide hA).below bq)
                  have hB1 : Hid (Below w1.heap.size w1 (wr.drewN nq)) := (unhide hB).trans (bq.mono hsz2)
                  have hsz3 := bq.size
                  clear hRa hRw hA hB bq hcell
                  generalize wr.drewN nq = wq at *
                  go_wp2_with (at_builtin; refine wpList_append_own_at _ rfl _ _ 25 rfl (w1.heap.size + 1) 9 i0 _ 1 16 Tryd.underlying25 hi hz0 hz1 hz2 rfl (by decide) _ _ _ rfl ((unhide hRw1).alloc _) ⟨_, 0, none⟩ 1 1 [.string X] rfl rfl (byte_new _ _ _) (str_one _) (by unfold maxLen; omega) (by omega) (by rw [World.size_alloc]; omega) ?_)
                  intro v2 w7 hO7 hg7 _ hloc
                  have hR7 : Hid (RowT (w1.heap.size + 1) v2 (Q ++ List.replicate (i + 1) (keyN k)) w7) := by
                    rw [unhide hP2]
                    rw [unhide HX] at hO7
                    exact rowT_snoc hO7
                  have hg7' := grown_alloc hg7
                  have hRa7 := hide (rowT_grown (unhide hRa1) hg7' (unhide hAp).symm)
                  have hAp7 : Hid (Ap va v2) := Ap.symm (ap_new (unhide hRa1) (.cells #[.string X] 9) (by simpa using hloc) (unhide hAp).symm)
                  have hA7 := hide (arr_grown (unhide hRw1) (unhide hA1) hg7' (Nat.lt_succ_self _))
                  have hB7 : Hid (Below w1.heap.size w1 w7) := (unhide hB1).grown hg7' (by omega) (fun z ez => by have := ((unhide hRw1).lt z ez).1; omega)
                  clear hO7 hg7 hg7' hloc hRa1 hRw1 hAp hA1 hB1
                  go_wp2_with fail
                  go_roundw
                  case rel => exact ⟨_, i + 1, by omega, rfl, by go_num, hRa7, hR7, hAp7, hA7, hB7⟩
                  case measure => simp [intOf]; omega
                · have hjm' : ¬ (i : Int) < (sq : Int) := by omega
                  obtain rfl : i = sq := by omega
                  rw [← unhide hk2'] at hRw
                  go_wp2_with fail
                  go_quiet (fail)
                  rename_i nq
                  have bq := below_drew wr nq
                  have hRa1 := hide (rowT_below (unhide hRa) bq)
                  have hRw1 := hide (rowT_below (unhide hRw) bq)
                  have hA1 := hide ((unhide hA).below bq)
                  have hB1 : Hid (Below w1.heap.size w1 (wr.drewN nq)) := (unhide hB).trans (bq.mono hsz2)
                  clear hRa hRw hA hB bq hcell
                  generalize wr.drewN nq = wq at *
                  go_wp2_with fail
                  go_roundw
                  case rel => exact ⟨_, _, k + 1, by omega, rfl, rfl, by go_num, hRa1, hRw1, hAp, hA1, hB1⟩
                  case measure => simp [intOf]; omega
        · have hlt' : ¬ (k : Int) < 256 := by omega
          obtain rfl : k = 256 := by omega
          obtain ⟨aa, ca, rfl, hTa⟩ := tx_row (unhide hRa)
          obtain ⟨aw, cw, rfl, hTw⟩ := tx_row (unhide hRw)
          have hl1 := unhide hKl 256
          have hl2 := unhide hKq 256
          have J1 := join_any aa aa (keysTo m 256).length (keysTo m 256).length ca ca ca ca ((keysTo m 256).map bt) ((keysTo m 256).map bt) 1 1 58 wr hTa hTa (by omega) (by omega) (by
            intro s hs
            obtain ⟨x, hx, rfl⟩ := List.mem_map.1 hs
            unfold keysTo at hx
            obtain ⟨n, _, hx⟩ := List.mem_flatMap.1 hx
            rw [(List.mem_replicate.1 hx).2]
            show 2 ≤ _
            omega) (by
            intro s hs
            obtain ⟨x, hx, rfl⟩ := List.mem_map.1 hs
            unfold keysTo at hx
            obtain ⟨n, _, hx⟩ := List.mem_flatMap.1 hx
            rw [(List.mem_replicate.1 hx).2]
            show 2 ≤ _
            omega) (by omega) (by omega) (by omega) (by omega) (by decide)
          rw [bs_map, unhide hJ] at J1
          replace J1 := hide J1
          have HTw := hide hTw
          have hBw := hide ((unhide B1).trans ((unhide hB).mono (unhide B1).size))
          clear hRa hRw hAp hA hTa hTw hB hKl hKq hJ
          generalize keysTo (fun n => m n * m n) 256 = K at *
          generalize (keysTo m 256).length = na at *
          go_wp2_with fail
          refine (unhide J1).mono ?_
          rintro e w5 ⟨v5, rfl, hO5, b5⟩
          obtain ⟨a5, c5, rfl, hT5⟩ := tx_row hO5
          have B5 := hide ((unhide hBw).trans (b5.mono (unhide hBw).size))
          have ST := hide (Pa.sameTexts_any a5 aw K.length c5 cw c5 cw (K.map bt) w5 (by omega) hT5 ((unhide HTw).below b5))
          clear hT5 hO5 b5 J1 HTw hBw
          go_wp2_with fail
          refine (unhide ST).mono ?_
          rintro e w6 ⟨rfl, b6⟩
          have B6 := hide ((unhide B5).trans (b6.mono (unhide B5).size))
          clear ST b6 B5
          go_wp2_with fail
          go_ret
          exact ⟨rfl, unhide B6⟩
end Go.Proofs.YtjkajhnnoecjbaaDoor.Vw
