import Derived.Test.YtmaenfcnkcaojaaGreatDoorSoList
import Derived.OwnWalk
import Derived.Laws.AppendOwnNone
import Derived.Test.YtmaenfcnkcaojaaGreatDoorSoFew
import Derived.Test.YtmaenfcnkcaojaaGreatDoorSoSays
import Derived.Test.YtmaenfcnkcaojaaGreatDoorSoFacts
import Derived.Test.YtmaenfcnkcaojaaGreatDoorKyHeld
import Derived.Deep.RegionHeld3
import Derived.Test.YtmaenfcnkcaojaaGreatDoorSoThree
import Derived.Test.YtmaenfcnkcaojaaGreatDoorSoAl
/- append onto a list of one's own, whatever is appended. -/
namespace Go.Proofs.YtmaenfcnkcaojaaGreatDoor.So
open Go.RowKit Ky
open Pa (Tx)

/-- 'append(v, xs...)', v the call's own, xs nil or not -/
theorem append_onto {P : Program} {w : World} {ops : Array Oper} {rest : List Oper} {o : Oper} {a : Act} {Q : Exit → Act → World → Prop} (hgd : o.guard = none) (s x : Operand) (t : TypeId)
    (ho : o.op = .call { callee := .builtin .append, args := #[s, x], argTypes := #[t, t] })
    (base : Nat) (e : TypeId) (i : TypeInfo) (z : Value) (size bytes : Nat) (ht : P.underlying t = some (.slice e)) (hi : P.info? e = some i) (hz : i.zero = some z)
    (hsize : i.size = size) (hby : i.bytes = bytes) (hzs : z.cells.size = size) (hsz : 0 < size)
    (v : Value) (n : Nat) (xs : List Value) (hs : a.eval s = v) (hown : w.ownsRow base e size v n xs)
    (ao : Option Addr) (m c : Nat) (news : List Value) (hx : a.eval x = .slice ao m c) (hnone : ao = none → m = 0 ∧ c = 0) (hl : news.length = m * size)
    (hnews : ∀ ad, ao = some ad → ∀ j u, news[j]? = some u → w.cell? (ad.add j) = some u) (h1 : ∀ u ∈ news, u.oneCell' = true)
    (h63 : n + m ≤ maxLen) (hbytes : (n + m) * bytes ≤ 140737488355328) (hbase : base ≤ w.heap.size)
    (h : ∀ v' w', w'.ownsRow base e size v' (n + m) (xs ++ news) → w.grownBy w' v.ownBlock → wpList P ops Q rest (a.put o.dst v') w') : wpList P ops Q (o :: rest) a w := by
  cases ao with
  | none =>
    obtain ⟨rfl, rfl⟩ := hnone rfl
    have : news = [] := List.eq_nil_of_length_eq_zero (by omega)
    subst this
    exact wpList_append_own_none hgd s x t ho base e i size ht hi v n xs hs hown hx (h _ _ (by simpa using hown) (World.grownBy.refl _ _))
  | some ad =>
    refine wpList_append_own w hgd s x t ho base e i z size bytes ht hi hz hsize hby hzs hsz v n xs hs hown ad m c news hx hl (hnews ad rfl) h1 h63 hbytes hbase ?_
    intro v' w' hown hgrow _
    exact h v' w' hown hgrow
theorem tx_src {w : World} {a : Option Addr} {n cap : Nat} {ss : Ls} (h : Tx w a n cap ss) : ∀ ad, a = some ad → ∀ j u, (strs ss)[j]? = some u → w.cell? (ad.add j) = some u := by
  intro ad ha j u hu
  have hl := h.len
  have hj : j < n := by
    rcases Nat.lt_or_ge j n with hj | hj
    · exact hj
    · rw [List.getElem?_eq_none (by rw [strs_len]; omega)] at hu; cases hu
  obtain ⟨g, off, hg, _, hc⟩ := tx_at h hj
  rw [hg] at ha
  obtain rfl := Option.some.inj ha
  rw [Pa.add_none, hc]
  rw [← hu]
  simp [strs, List.getD, List.getElem?_eq_getElem (show j < ss.length by omega)]
end Go.Proofs.YtmaenfcnkcaojaaGreatDoor.So

/- SortsMerged returns true, if Sort, Check, Merge and alive answer as they should. -/
namespace Go.Proofs.YtmaenfcnkcaojaaGreatDoor.So
open Go.RowKit Go.Shelf Ky
open Pa (Tx tot)

attribute [local go_sem] Oper.semAt_some

theorem tot_mem : ∀ {A : Ls} {s : ByteArray}, s ∈ A → s.size ≤ tot A
  | x :: l, s, h => by
    rcases List.mem_cons.1 h with rfl | h
    · simp [tot]
    · have := tot_mem h; simp [tot]; omega
theorem check_neg (o : Ky.Ord) (u : Bool) : ∀ l : Ls, checkL o u l = -1 ∨ 0 ≤ checkL o u l
  | [] => by unfold checkL; simp
  | a :: l => by
    show (if okO o = false then -1 else badAt o u 1 a l) = -1 ∨ 0 ≤ (if okO o = false then -1 else badAt o u 1 a l)
    by_cases h0 : okO o = false
    · rw [if_pos h0]; exact .inl rfl
    · rw [if_neg h0]
      rcases badAt_lo o u 1 a l with h | h
      · exact .inl h
      · right; omega
set_option maxRecDepth 100000 in
set_option maxHeartbeats 800000 in
theorem sortsMerged_any (AL : AliveSays) (HS : SortSays) (HC : CheckSays) (HM : MergeSays) (o : Ky.Ord) (A B : Ls) (a b : Option Addr) (la ca lb cb : Nat) (w : World) (hT : Tx w a la ca A) (hT2 : Tx w b lb cb B) (hl : la ≤ 4611686018427387904) (hl2 : lb ≤ 4611686018427387904) (hca : ca ≤ 9223372036854775807) (hcb : cb ≤ 9223372036854775807) (hs : ∀ s ∈ A, s.size ≤ 4611686018427387904) (hs2 : ∀ s ∈ B, s.size ≤ 4611686018427387904) :
    Calls Tryz.prog 4 #[ov o, .slice a la ca, .slice b lb cb] w fun e w' => e = .returned (.bool true) ∧ Below w.heap.size w w' := by
  obtain ⟨i0, hi, hz0, hz1, hz2⟩ := info_parts Pa.Tryz.infoStr
  have AL1 := hide AL
  have CK := hide (fun W => check_any o W)
  unfold AliveSays at AL1
  have H0 : Hid (Hd w o (w.alloc (.cells #[.bool o.num, .bool o.fold, .bool o.bls, .bool o.rev, .int .i64 o.fr, .int .i64 o.«to», .int .u8 (o.sep.toNat : Int)] 23))) := Hd.new w o
  have HT := hide hT
  have HT2 := hide hT2
  have FW : Hid (∀ W, Hd w o W → Calls Tryz.prog 16 #[.slice (some ⟨W.heap.size, 0, none⟩) 2 2] (W.alloc (.cells #[.slice a la ca, .slice b lb cb] 25)) fun e w' => ∃ r : Bool, e = .returned (.bool r) ∧ (r = true → la + lb ≤ 300 ∧ la + tot A ≤ 20000 ∧ lb + tot B ≤ 20000) ∧ Below (W.alloc (.cells #[.slice a la ca, .slice b lb cb] 25)).heap.size (W.alloc (.cells #[.slice a la ca, .slice b lb cb] 25)) w') := fun W h =>
    few_two A B a b la ca lb cb W.heap.size _ (by simp) (by simp) ((hT.below h.2).below ((Below.refl _ W).alloc (Nat.le_refl _) _)) ((hT2.below h.2).below ((Below.refl _ W).alloc (Nat.le_refl _) _)) hl hl2 hs hs2
  have hlen := hide hT.len
  have hlen2 := hide hT2.len
  clear hT hT2
  unfold ov at CK ⊢
  go_enter Tryz.func4, Tryz.ntmps4
  go_wp2_with fail
  refine (unhide AL1 _).mono ?_
  rintro e w1 ⟨rfl, b1⟩
  have H1 := hide ((unhide H0).step b1)
  clear b1 H0
  go_wp2_with fail
  refine (unhide FW _ (unhide H1)).mono ?_
  rintro e w2 ⟨r, rfl, hr, b2⟩
  have H2 := hide (((unhide H1).step ((Below.refl _ w1).alloc (Nat.le_refl _) (.cells #[.slice a la ca, .slice b lb cb] 25))).step b2)
  clear b2 H1 FW
  obtain ⟨d0, d1, d2, d3, d4, d5, d6⟩ := (unhide H2).1.cells
  cases r
  · clear hr
    go_wp2_with fail
    refine (unhide AL1 _).mono ?_
    rintro e w3 ⟨rfl, b3⟩
    have H3 := hide ((unhide H2).step b3)
    clear b3 H2
    go_wp2_with fail
    go_ret
    exact ⟨rfl, (unhide H3).2⟩
  · obtain ⟨hf1, hf2, hf3⟩ := hr rfl
    clear hr
    go_wp2_with fail
    refine (unhide CK _).mono ?_
    rintro e w3 ⟨rfl, b3⟩
    have H3 := hide ((unhide H2).step b3)
    clear b3 H2 d0 d1 d2 d3 d4 d5 d6
    cases hok : okO o
    · go_wp2_with fail
      refine (unhide AL1 _).mono ?_
      rintro e w4 ⟨rfl, b4⟩
      have H4 := hide ((unhide H3).step b4)
      clear b4 H3
      go_wp2_with fail
      go_ret
      exact ⟨rfl, (unhide H4).2⟩
    · have hAs : ∀ s ∈ A, s.size ≤ 1073741000 := fun s h => by have := tot_mem h; omega
      have hBs : ∀ s ∈ B, s.size ≤ 1073741000 := fun s h => by have := tot_mem h; omega
      -- what Sort answers, of a list that is short
      have S1 : Hid (∀ (L : Ls) (y : Option Addr) (n cy : Nat) (W : World), Tx W y n cy L → n ≤ 300 → cy ≤ 9223372036854775807 → (∀ s ∈ L, s.size ≤ 1073741000) → Calls Tryz.prog 18 #[.agg #[.bool o.num, .bool o.fold, .bool o.bls, .bool o.rev, .int .i64 o.fr, .int .i64 o.«to», .int .u8 (o.sep.toNat : Int)], .slice y n cy, .bool false] W fun e w' => ∃ x c, e = .returned (.tuple #[.slice x n c, .int .i64 0]) ∧ (Tx w' x n c (sortL o false L) ∧ c ≤ 9223372036854775807) ∧ Below W.heap.size W w') := fun L y n cy W h hn hc hz =>
        (HS o false L y n cy W h (by omega) hc (fun _ => hz)).mono fun e w' q => by
          have hE : sortE o n = 0 := by unfold sortE; rw [hok, if_neg (by simp), if_neg (by omega)]
          have hE1 : sortE o L.length = 0 := by rw [h.len]; exact hE
          obtain ⟨v, h1, h2, h3⟩ := q
          rw [show sortA o false L = sortL o false L by unfold sortA; rw [hE1, if_pos rfl]] at h2
          obtain ⟨x, c, rfl, h4, h5⟩ := own_tx h2
          rw [sortL_len, h.len] at h4 h1
          exact ⟨x, c, by rw [h1, hE], ⟨h4, h5⟩, h3⟩
      have hchk : ∀ L : Ls, checkL o false (sortL o false L) = -1 := fun L => sort_checks o hok L
      have c0 : checkL o false [] = -1 := rfl
      have hmem : ∀ L : Ls, (∀ s ∈ L, s.size ≤ 1073741000) → ∀ s ∈ sortL o false L, s.size ≤ 1073741000 := fun L h s hs => h s ((sort_all o L).1.subset hs)
      obtain ⟨n1, m1⟩ : mergeE o [sortL o false A, sortL o false B, []] = 0 ∧ mergeA o [sortL o false A, sortL o false B, []] = sortL o false (A ++ B) := by
        have e0 : [sortL o false A, sortL o false B, ([] : Ls)].flatten = sortL o false A ++ sortL o false B := by simp
        have e1 : mergeE o [sortL o false A, sortL o false B, []] = 0 := by
          unfold mergeE
          rw [hok, if_neg (by simp), if_neg (by simp [hchk, c0]), e0, if_neg (by rw [List.length_append, sortL_len, sortL_len, unhide hlen, unhide hlen2]; omega)]
        refine ⟨e1, ?_⟩
        unfold mergeA
        rw [e1, if_pos rfl, e0, sort_app]
      have n2 : mergeE o [A, sortL o false A] = if checkL o false A = -1 then 0 else 1 := by
        unfold mergeE
        rw [hok, if_neg (by simp)]
        by_cases hc : checkL o false A = -1
        · rw [if_neg (by simp [hchk, hc]), if_neg (by simp [sortL_len, unhide hlen]; omega), if_pos hc]
        · rw [if_pos (by simp [hc]), if_neg hc]
      have hcn := check_neg o false A
      have CH : Hid (∀ W, Tx W a la ca A → Calls Tryz.prog 19 #[.agg #[.bool o.num, .bool o.fold, .bool o.bls, .bool o.rev, .int .i64 o.fr, .int .i64 o.«to», .int .u8 (o.sep.toNat : Int)], .slice a la ca, .bool false] W fun e w' => e = .returned (.int .i64 (checkL o false A)) ∧ Below W.heap.size W w') := fun W h => HC o false A a la ca W h hl hAs
      have M1 : Hid (∀ (x y : Option Addr) (c d : Nat) (W : World), Tx W x la c (sortL o false A) → Tx W y lb d (sortL o false B) → c ≤ 9223372036854775807 → d ≤ 9223372036854775807 → Calls Tryz.prog 8 #[.agg #[.bool o.num, .bool o.fold, .bool o.bls, .bool o.rev, .int .i64 o.fr, .int .i64 o.«to», .int .u8 (o.sep.toNat : Int)], .slice (some ⟨W.heap.size, 0, none⟩) 3 3] (W.alloc (.cells #[.slice x la c, .slice y lb d, .slice none 0 0] 25)) fun e w' => ∃ z k, e = .returned (.tuple #[.slice z (la + lb) k, .int .i64 0]) ∧ Tx w' z (la + lb) k (sortL o false (A ++ B)) ∧ Below (W.alloc (.cells #[.slice x la c, .slice y lb d, .slice none 0 0] 25)).heap.size (W.alloc (.cells #[.slice x la c, .slice y lb d, .slice none 0 0] 25)) w') := fun x y c d W h1 h2 hc hd => by
        obtain ⟨W2, hW2⟩ : ∃ W2, W2 = W.alloc (.cells #[.slice x la c, .slice y lb d, .slice none 0 0] 25) := ⟨_, rfl⟩
        have hb : Below W.heap.size W W2 := by rw [hW2]; exact (Below.refl _ W).alloc (Nat.le_refl _) _
        have k0 : W2.cell? ⟨W.heap.size, 0, none⟩ = some (.slice x la c) := by rw [hW2]; simp
        have k1 : W2.cell? ⟨W.heap.size, 1, none⟩ = some (.slice y lb d) := by rw [hW2]; simp
        have k2 : W2.cell? ⟨W.heap.size, 2, none⟩ = some (.slice none 0 0) := by rw [hW2]; simp
        have hsz : W.heap.size < W2.heap.size := by rw [hW2]; simp
        have hLL : LL W2 (some ⟨W.heap.size, 0, none⟩) 3 [sortL o false A, sortL o false B, []] := by
          refine ⟨rfl, .inr ⟨W.heap.size, 0, rfl, hsz, fun i hi => ?_⟩⟩
          rw [Nat.zero_add]
          match i, hi with
          | 0, _ => exact ⟨x, la, c, k0, h1.below hb, hc⟩
          | 1, _ => exact ⟨y, lb, d, k1, h2.below hb, hd⟩
          | 2, _ => exact ⟨none, 0, 0, k2, ⟨rfl, Nat.le_refl _, fun _ => ⟨rfl, rfl⟩, .inl rfl⟩, by omega⟩
        rw [← hW2]
        refine (HM o _ _ 3 3 W2 hLL (by omega) (by simp [sortL_len, unhide hlen, unhide hlen2]; omega) (fun L hL => ?_)).mono fun e w' q => ?_
        · simp only [List.mem_cons, List.not_mem_nil, or_false] at hL
          rcases hL with rfl | rfl | rfl
          · exact hmem A hAs
          · exact hmem B hBs
          · intro s hs; cases hs
        · obtain ⟨v, q1, q2, q3⟩ := q
          rw [m1] at q2
          obtain ⟨x, c, rfl, q4, q5⟩ := own_tx q2
          rw [sortL_len, List.length_append, unhide hlen, unhide hlen2] at q4 q1
          exact ⟨x, c, by rw [q1, n1], q4, q3⟩
      have M2 : Hid (∀ (x : Option Addr) (c : Nat) (W : World), Tx W x la c (sortL o false A) → Tx W a la ca A → c ≤ 9223372036854775807 → Calls Tryz.prog 8 #[.agg #[.bool o.num, .bool o.fold, .bool o.bls, .bool o.rev, .int .i64 o.fr, .int .i64 o.«to», .int .u8 (o.sep.toNat : Int)], .slice (some ⟨W.heap.size, 0, none⟩) 2 2] (W.alloc (.cells #[.slice a la ca, .slice x la c] 25)) fun e w' => ∃ v, e = .returned (.tuple #[v, .int .i64 (if checkL o false A = -1 then 0 else 1)]) ∧ Below (W.alloc (.cells #[.slice a la ca, .slice x la c] 25)).heap.size (W.alloc (.cells #[.slice a la ca, .slice x la c] 25)) w') := fun x c W h1 h2 hc => by
        obtain ⟨W2, hW2⟩ : ∃ W2, W2 = W.alloc (.cells #[.slice a la ca, .slice x la c] 25) := ⟨_, rfl⟩
        have hb : Below W.heap.size W W2 := by rw [hW2]; exact (Below.refl _ W).alloc (Nat.le_refl _) _
        have k0 : W2.cell? ⟨W.heap.size, 0, none⟩ = some (.slice a la ca) := by rw [hW2]; simp
        have k1 : W2.cell? ⟨W.heap.size, 1, none⟩ = some (.slice x la c) := by rw [hW2]; simp
        have hsz : W.heap.size < W2.heap.size := by rw [hW2]; simp
        have hLL : LL W2 (some ⟨W.heap.size, 0, none⟩) 2 [A, sortL o false A] := by
          refine ⟨rfl, .inr ⟨W.heap.size, 0, rfl, hsz, fun i hi => ?_⟩⟩
          rw [Nat.zero_add]
          match i, hi with
          | 0, _ => exact ⟨a, la, ca, k0, h2.below hb, hca⟩
          | 1, _ => exact ⟨x, la, c, k1, h1.below hb, hc⟩
        rw [← hW2]
        refine (HM o _ _ 2 2 W2 hLL (by omega) (by simp [sortL_len, unhide hlen]; omega) (fun L hL => ?_)).mono fun e w' q => ?_
        · simp only [List.mem_cons, List.not_mem_nil, or_false] at hL
          rcases hL with rfl | rfl
          · exact hAs
          · exact hmem A hAs
        · obtain ⟨v, q1, q2, q3⟩ := q
          exact ⟨v, by rw [q1, n2], q3⟩
      obtain ⟨MA, hMA⟩ : ∃ M, M = sortL o false A := ⟨_, rfl⟩
      obtain ⟨MB, hMB⟩ : ∃ M, M = sortL o false B := ⟨_, rfl⟩
      obtain ⟨MC, hMC⟩ : ∃ M, M = sortL o false (A ++ B) := ⟨_, rfl⟩
      have SA := hide (fun W h => unhide S1 A a la ca W h (by omega) hca hAs)
      have SB := hide (fun W h => unhide S1 B b lb cb W h (by omega) hcb hBs)
      have SC := hide (fun W y cy h hc => unhide S1 (A ++ B) y (la + lb) cy W h hf1 hc (fun s h => (List.mem_append.1 h).elim (hAs s) (hBs s)))
      rw [← hMA] at M1 M2 SA
      rw [← hMB] at M1 SB
      rw [← hMC] at M1 SC
      obtain ⟨m, hm⟩ : ∃ m, m = checkL o false A := ⟨_, rfl⟩
      rw [← hm] at CH M2 hcn
      obtain ⟨i2, hi2⟩ : ∃ i : Int, i = if m = -1 then 0 else 1 := ⟨_, rfl⟩
      rw [← hi2] at M2
      obtain ⟨d0, d1, d2, d3, d4, d5, d6⟩ := (unhide H3).1.cells
      clear AL1 CK hAs hBs S1 hchk c0 hmem n1 m1 n2 AL HS HC HM hMA hMB hMC
      go_wp2_with fail
      refine (unhide SA _ ((unhide HT).below (unhide H3).2)).mono ?_
      rintro e w4 ⟨x4, c4, rfl, ⟨t4, q4⟩, b4⟩
      have H4 := hide ((unhide H3).step b4)
      have T4 := hide t4
      clear b4 H3 SA d0 d1 d2 d3 d4 d5 d6 t4
      obtain ⟨d0, d1, d2, d3, d4, d5, d6⟩ := (unhide H4).1.cells
      go_wp2_with fail
      refine (unhide SB _ ((unhide HT2).below (unhide H4).2)).mono ?_
      rintro e w5 ⟨x5, c5, rfl, ⟨t5, q5⟩, b5⟩
      have H5 := hide ((unhide H4).step b5)
      have T45 := hide ((unhide T4).below b5)
      have T5 := hide t5
      clear b5 H4 SB d0 d1 d2 d3 d4 d5 d6 t5 T4
      obtain ⟨d0, d1, d2, d3, d4, d5, d6⟩ := (unhide H5).1.cells
      go_wp2_with fail
      refine (unhide M1 _ _ _ _ _ (unhide T45) (unhide T5) q4 q5).mono ?_
      rintro e w6 ⟨x6, c6, rfl, t6, b6⟩
      have B6 : Hid (Below w5.heap.size w5 w6) := ((Below.refl _ w5).alloc (Nat.le_refl _) (.cells #[.slice x4 la c4, .slice x5 lb c5, .slice none 0 0] 25)).trans (b6.mono (by simp))
      have H6 := hide ((unhide H5).step (unhide B6))
      have T46 := hide ((unhide T45).below (unhide B6))
      have T6 := hide t6
      have TA6 := hide ((unhide HT).below (unhide H6).2)
      have TB6 := hide ((unhide HT2).below (unhide H6).2)
      clear b6 H5 M1 d0 d1 d2 d3 d4 d5 d6 t6 T45 T5 B6
      have LA : Hid ((strs A).length = la * 1) := by show _ = _; rw [strs_len, unhide hlen]; omega
      have LB : Hid ((strs B).length = lb * 1) := by show _ = _; rw [strs_len, unhide hlen2]; omega
      have LC : Hid ((A ++ B).length = la + lb) := by show _ = _; rw [List.length_append, unhide hlen, unhide hlen2]
      go_wp2_with (at_builtin; refine append_onto rfl _ _ 25 rfl w6.heap.size 9 i0 _ 1 16 Tryz.underlying25 hi hz0 hz1 hz2 rfl (by decide) (.slice none 0 0) 0 [] rfl (World.ownsRow_nil _ _ _ _) a la ca (strs A) rfl (unhide TA6).nil (unhide LA) (by exact tx_src (unhide TA6)) (strs_one _) (by unfold maxLen; omega) (by omega) (Nat.le_refl _) ?_)
      intro va w7 ho7 hg7
      try simp only [Nat.zero_add, List.nil_append] at ho7
      have b7 : Below w6.heap.size w6 w7 := (Below.refl _ _).grown hg7 (Nat.le_refl _) (by simp [Value.ownBlock])
      have HO7 := hide ho7
      have TB7 := hide ((unhide TB6).below b7)
      have B7 := hide b7
      obtain ⟨y0, y1, y2, hv1⟩ := sl_of_own ho7
      subst hv1
      clear ho7 hg7 b7 TB6
      go_wp2_with (at_builtin; refine append_onto rfl _ _ 25 rfl w6.heap.size 9 i0 _ 1 16 Tryz.underlying25 hi hz0 hz1 hz2 rfl (by decide) (.slice y0 y1 y2) la (strs A) rfl (unhide HO7) b lb cb (strs B) rfl (unhide TB7).nil (unhide LB) (by exact tx_src (unhide TB7)) (strs_one _) (by unfold maxLen; omega) (by omega) (unhide B7).size ?_)
      intro vb w8 ho8 hg8
      rw [← strs_app, ← unhide LC] at ho8
      have b8 : Below w6.heap.size w6 w8 := (unhide B7).grown hg8 (unhide B7).size (fun j hj => ((unhide HO7).lt j hj).1)
      obtain ⟨x8, c8, hv8, t8, q8⟩ := own_tx ho8
      rw [unhide LC] at hv8 t8
      subst hv8
      have H8 := hide ((unhide H6).step b8)
      have T48 := hide ((unhide T46).below b8)
      have T68 := hide ((unhide T6).below b8)
      have TA8 := hide ((unhide TA6).below b8)
      have T8 := hide t8
      clear ho8 hg8 b8 t8 H6 T46 T6 TA6 TB7 HO7 B7
      obtain ⟨d0, d1, d2, d3, d4, d5, d6⟩ := (unhide H8).1.cells
      go_wp2_with fail
      refine (unhide SC _ _ _ (unhide T8) q8).mono ?_
      rintro e w9 ⟨x9, c9, rfl, ⟨t9, q9⟩, b9⟩
      have H9 := hide ((unhide H8).step b9)
      have T49 := hide ((unhide T48).below b9)
      have T69 := hide ((unhide T68).below b9)
      have TA9 := hide ((unhide TA8).below b9)
      have T9 := hide t9
      clear b9 t9 H8 T48 T68 TA8 T8 SC d0 d1 d2 d3 d4 d5 d6
      obtain ⟨d0, d1, d2, d3, d4, d5, d6⟩ := (unhide H9).1.cells
      go_wp2_with fail
      refine (unhide M2 _ _ _ (unhide T49) (unhide TA9) q4).mono ?_
      rintro e u ⟨vm, rfl, b6⟩
      have BU : Hid (Below w9.heap.size w9 u) := ((Below.refl _ w9).alloc (Nat.le_refl _) (.cells #[.slice a la ca, .slice x4 la c4] 25)).trans (b6.mono (by simp))
      have HU := hide ((unhide H9).step (unhide BU))
      have T6U := hide ((unhide T69).below (unhide BU))
      have TAU := hide ((unhide TA9).below (unhide BU))
      have T9U := hide ((unhide T9).below (unhide BU))
      clear b6 H9 T49 T69 TA9 T9 M2 BU d0 d1 d2 d3 d4 d5 d6
      have FIN : (m = -1 ∧ i2 = 0) ∨ (0 ≤ m ∧ i2 = 1) := by
        rcases hcn with h | h
        · exact .inl ⟨h, by rw [hi2, if_pos h]⟩
        · exact .inr ⟨h, by rw [hi2, if_neg (by omega)]⟩
      clear hi2 hcn hm
      rcases FIN with ⟨rfl, rfl⟩ | ⟨h0, rfl⟩
      all_goals
        go_wp2_with fail
        refine (Pa.sameTexts_any x6 x9 (la + lb) c6 c9 c6 c9 MC u (by omega) (unhide T6U) (unhide T9U)).mono ?_
        rintro e u1 ⟨rfl, b1⟩
        have HU1 := hide ((unhide HU).step b1)
        have TAU1 := hide ((unhide TAU).below b1)
        clear b1 HU TAU T6U T9U
        obtain ⟨d0, d1, d2, d3, d4, d5, d6⟩ := (unhide HU1).1.cells
        go_wp2_with fail
        refine (unhide CH _ (unhide TAU1)).mono ?_
        rintro e u2 ⟨rfl, b2⟩
        have HU2 := hide ((unhide HU1).step b2)
        clear b2 HU1 TAU1 CH d0 d1 d2 d3 d4 d5 d6
        go_wp2_with fail
        go_ret
        refine ⟨?_, (unhide HU2).2⟩
        first | rfl | (have hm0 : ¬ m < 0 := by omega
                       simp [hm0])
end Go.Proofs.YtmaenfcnkcaojaaGreatDoor.So

/- What Sort, Check and alive of the program answer: as the walks of the outright statements ask. -/
namespace Go.Proofs.YtmaenfcnkcaojaaGreatDoor.So
open Go.RowKit Ky

theorem alive_says : AliveSays := alive_anyS
theorem sort_says : SortSays := fun o u A a la ca w hT hl _ hs => sort_any o u A a la ca w hT hl hs
theorem check_says : CheckSays := fun o u A a la ca w hT hl hs => check_anyS o u A a la ca w hT hl hs
end Go.Proofs.YtmaenfcnkcaojaaGreatDoor.So
