/- The contract of the model's Unpacked over any slice of bytes that can be read. -/
import Derived.Test.YtpbbahpndgigjaaGreatDoorG18
namespace Go.Proofs.YtpbbahpndgigjaaGreatDoor
set_option maxHeartbeats 16000000
set_option maxRecDepth 100000
open Go.RowKit
theorem rd_at {w : World} {b off cap : Nat} {bs : List UInt8} (hl : bs.length ≤ cap) (hm : cap ≤ maxLen) (hc : ∀ i (h : i < bs.length), w.cell? ⟨b, off + i, none⟩ = some (.int .u8 (bs[i].toNat : Int))) (p : Nat) : Rd w (.slice (some ⟨b, off + p, none⟩) (bs.length - p) (cap - p)) (bs.drop p) := by
  refine ⟨some ⟨b, off + p, none⟩, cap - p, by rw [List.length_drop], by rw [List.length_drop]; omega, by omega, .inr ⟨b, off + p, rfl, fun i hi => ?_⟩⟩
  rw [List.length_drop] at hi
  have := hc (p + i) (by omega)
  rw [← Nat.add_assoc] at this
  rw [this]
  simp
theorem rd_end {w : World} {a : Option Addr} {bs : List UInt8} {p : Nat} (h : bs.length ≤ p) : Rd w (.slice a 0 0) (bs.drop p) := by
  rw [List.drop_eq_nil_of_le h]; exact ⟨a, 0, rfl, Nat.zero_le _, Nat.zero_le _, .inl rfl⟩
theorem rdNum_end {bs : List UInt8} {p : Nat} (h : bs.length ≤ p) : rdNum (bs.drop p) = (0, 0) := by rw [List.drop_eq_nil_of_le h]; rfl
theorem rdText_end {bs : List UInt8} {p : Nat} (h : bs.length ≤ p) : rdText (bs.drop p) = ([], 0) := by rw [List.drop_eq_nil_of_le h]; rfl
theorem rdParts_no {last : ByteArray} {a1 a2 t2 s1 s2 v2 : Nat} {t1 v1 : List UInt8} (h1 : ¬ (a2 = 0 ∨ last.size < a1 ∨ t2 = 0)) (h : s2 = 0 ∨ v2 = 0) : rdParts false last (a1, a2) (t1, t2) (s1, s2) (v1, v2) = none := by
  unfold rdParts
  rw [if_neg h1, if_neg (by simp), if_pos h]
theorem rdParts_free {last : ByteArray} {a1 a2 t2 s1 s2 v2 : Nat} {t1 v1 : List UInt8} (h1 : ¬ (a2 = 0 ∨ last.size < a1 ∨ t2 = 0)) (h : ¬ (s2 = 0 ∨ v2 = 0)) :
    rdParts false last (a1, a2) (t1, t2) (s1, s2) (v1, v2) = some (⟨⟨(last.data.toList.take a1 ++ t1).toArray⟩, ⟨v1.toArray⟩, ((s1 / 2 : Nat) : Int), decide (s1 % 2 = 1)⟩, a2 + t2 + s2 + v2) := by
  unfold rdParts
  rw [if_neg h1, if_neg (by simp), if_neg h]
theorem conv_rd {w : World} {v : Value} {bs : List UInt8} (h : Rd w v bs) : (convert 22 9 v).run Tryz.prog w = .ok (.string ⟨bs.toArray⟩) w := by
  obtain ⟨a, cap, rfl, hl, hm, hA⟩ := h
  rcases hA with rfl | ⟨b, off, rfl, hc⟩
  · cases a with
    | none => exact run_convert_bytes_nil w 22 5 Tryz.underlying22 Tryz.underlying5 0 cap 9 Tryz.underlying9
    | some x => exact run_convert_bytes_back w 22 9 5 x cap [] Tryz.underlying22 Tryz.underlying5 Tryz.underlying9 (fun j hj => by simp at hj)
  · exact conv_at w b off bs.length cap bs rfl hc
theorem wpAnyH_moreR {P : Program} {md : Region.Mode} {ops : Array Oper} {Q : Exit → Act → World → Prop} {S S' : World → Prop} (hSS : ∀ w, S' w → S w) :
    ∀ (fuel : Nat) (listed : Array Bool) (a : Act) (w : World), wpAnyH P md ops Q S' fuel listed a w → wpAnyH P md ops Q S fuel listed a w
  | 0, _, _, _, h => h
  | fuel + 1, _, _, _, h => ⟨h.1, fun i hi => wpOp_mono (fun a' w' h' => ⟨hSS _ h'.1, wpAnyH_moreR hSS fuel _ a' w' h'.2⟩) (h.2 i hi)⟩
theorem rdNum_at (bs : List UInt8) (p : Nat) : (rdNum (bs.drop p)).2 ≤ bs.length - p ∧ (rdNum (bs.drop p)).1 ≤ 1099511627776 := by have := rdNum_len (bs.drop p); rw [List.length_drop] at this; exact ⟨this.1, this.2.1⟩
theorem rdText_at (bs : List UInt8) (p : Nat) : (rdText (bs.drop p)).2 ≤ bs.length - p ∧ (rdText (bs.drop p)).1.length ≤ 3000 := by
  have h1 := rdText_len (bs.drop p)
  rw [List.length_drop] at h1
  exact ⟨h1, rdText_short _⟩
theorem specUnpacked_any (v : Value) (bs : List UInt8) (w : World) (hr : Rd w v bs) :
    Calls Tryz.prog 114 #[v] w fun e w' => UnpPost w (unpS bs) e w' := by
  obtain ⟨F, hF⟩ : ∃ F, F = unpS bs := ⟨_, rfl⟩
  rw [← hF]
  have HF0 : Hid (F = unpS bs) := hF
  clear hF
  have HN := specReadNumber_any v bs w hr
  obtain ⟨R, hR⟩ : ∃ R, rdNum bs = R := ⟨_, rfl⟩
  have hRl := rdNum_len bs
  rw [hR] at hRl HN
  obtain ⟨n, k⟩ := R
  have HU : Hid (unpC false bs = if k = 0 ∨ 300 < n then none else rdEs false bs n k [] ⟨#[]⟩) := by unfold Hid unpC; rw [hR]
  have HNN : Hid (Calls _ _ _ _ _) := HN
  have HRD0 : Hid (Rd w v bs) := hr
  clear HN hR
  simp only at hRl
  obtain ⟨a, cap, hv, hl, hm, hA⟩ := hr
  subst hv
  have Hm : Hid (cap ≤ maxLen) := hm
  unfold maxLen at hm
  by_cases q0 : k = 0
  · have RES : Hid (F = ([], false)) := by unfold Hid; rw [HF0.out]; unfold unpS; rw [HU.out, if_pos (.inl q0)]; rfl
    have hk0 : ((k : Int) == 0) = true := by simp; omega
    clear hA q0
    go_enter Tryz.func114, Tryz.ntmps114
    go_wp2_with fail
    refine HNN.out.mono ?_
    rintro e w1 ⟨rfl, hw1⟩
    obtain rfl := hw1.symm
    go_wp2
    go_ret2
    exact unpPost_no RES.out (ownE_new _) (Nat.le_refl _) ((Below.refl _ _).alloc (Nat.le_refl _) _)
  have hk0 : ((k : Int) == 0) = false := by simp; omega
  by_cases q1 : 300 < n
  · have RES : Hid (F = ([], false)) := by unfold Hid; rw [HF0.out]; unfold unpS; rw [HU.out, if_pos (.inr q1)]; rfl
    clear hA q0
    go_enter Tryz.func114, Tryz.ntmps114
    go_wp2_with fail
    refine HNN.out.mono ?_
    rintro e w1 ⟨rfl, hw1⟩
    obtain rfl := hw1.symm
    go_wp2
    go_ret2
    exact unpPost_no RES.out (ownE_new _) (Nat.le_refl _) ((Below.refl _ _).alloc (Nat.le_refl _) _)
  rcases hA with h | ⟨b, off, rfl, hc⟩
  · subst h; simp at hRl; omega
  obtain ⟨res, hres⟩ : ∃ res, res = unpC false bs := ⟨_, rfl⟩
  have HR0 : Hid (res = rdEs false bs n k [] ⟨#[]⟩) := by unfold Hid; rw [hres, HU.out, if_neg (by omega)]
  have RES0 : Hid (res = none → F = ([], false)) := fun h => by rw [HF0.out]; unfold unpS; rw [← hres, h]; rfl
  have RES1 : Hid (∀ es p, res = some (es, p) → F = if packL es = bs then (es, true) else ([], false)) := fun es p h => by rw [HF0.out]; unfold unpS; rw [← hres, h]; rfl
  have HA0 : Hid (∀ i (h : i < bs.length), w.cell? ⟨b, off + i, none⟩ = some (.int .u8 (bs[i].toNat : Int))) := hc
  clear hc hres HU HF0 q0
  go_enter Tryz.func114, Tryz.ntmps114
  go_wp2_with fail
  refine HNN.out.mono ?_
  rintro e w1 ⟨rfl, hw1⟩
  obtain rfl := hw1.symm
  clear HNN
  go_wp2
  go_loopw [4, 5, 6, 7] (fun nn aa oo ll wr => ∃ (m p : Nat) (es : List Ent) (last : ByteArray), nn = .int .i64 m ∧ aa = .int .i64 p ∧ ll = .string last ∧ m + es.length ≤ 300 ∧ p ≤ bs.length ∧ last.size ≤ 3000 * es.length ∧ OwnE wr w.heap.size oo es ∧ Below w.heap.size w wr ∧ Hid (∀ x ∈ es, Fits x) ∧ Hid (res = rdEs false bs m p es last)) (fun nn _ _ _ _ => (intOf nn).toNat)
  case atStart => exact ⟨n, k, [], ⟨#[]⟩, rfl, rfl, rfl, by simp; omega, by omega, Nat.zero_le _, ownE_new _, (Below.refl _ _).alloc (Nat.le_refl _) _, (fun x hx => by cases hx), HR0⟩
  case round =>
    obtain ⟨m, p, es, last, rfl, rfl, rfl, hms, hp, hls, ho, hb, HFIT, HR⟩ := hrel
    have hs := hb.size
    clear HR0
    by_cases hlt : 0 < m
    · obtain ⟨m', rfl⟩ : ∃ m', m = m' + 1 := ⟨m - 1, by omega⟩
      obtain ⟨aV, cV, hvO, hO1, hO2, _⟩ := id ho.rd
      subst hvO
      unfold maxLen at hO2
      have hcr : ∀ i (h : i < bs.length), wr.cell? ⟨b, off + i, none⟩ = some (.int .u8 (bs[i].toNat : Int)) := fun i hi => by rw [hb.cell (World.block_lt_of_cell? w _ (HA0.out i hi))]; exact HA0.out i hi
      have HRD : Hid (∀ p, Rd wr (.slice (some ⟨b, off + p, none⟩) (bs.length - p) (cap - p)) (bs.drop p)) := rd_at hl Hm.out hcr
      clear hcr
      obtain ⟨A, hA⟩ : ∃ A, rdNum (bs.drop p) = A := ⟨_, rfl⟩
      have lA := rdNum_at bs p
      rw [hA] at lA
      obtain ⟨p1, hp1⟩ : ∃ p1, p + A.2 = p1 := ⟨_, rfl⟩
      obtain ⟨T, hT⟩ : ∃ T, rdText (bs.drop p1) = T := ⟨_, rfl⟩
      have lT := rdText_at bs p1
      rw [hT] at lT
      obtain ⟨p2, hp2⟩ : ∃ p2, p1 + T.2 = p2 := ⟨_, rfl⟩
      obtain ⟨S, hS⟩ : ∃ S, rdNum (bs.drop p2) = S := ⟨_, rfl⟩
      have lS := rdNum_at bs p2
      rw [hS] at lS
      obtain ⟨p3, hp3⟩ : ∃ p3, p2 + S.2 = p3 := ⟨_, rfl⟩
      obtain ⟨V, hV⟩ : ∃ V, rdText (bs.drop p3) = V := ⟨_, rfl⟩
      have lV := rdText_at bs p3
      rw [hV] at lV
      obtain ⟨p4, hp4⟩ : ∃ p4, p3 + V.2 = p4 := ⟨_, rfl⟩
      have HPARTS : Hid (∀ L, rdEnt false L (bs.drop p) = rdParts false L A T S V) := fun L => rdEnt_parts false L _ A T S V hA (by rw [List.drop_drop, hp1]; exact hT) (by rw [List.drop_drop, ← Nat.add_assoc, hp1, hp2]; exact hS) (by rw [List.drop_drop, ← Nat.add_assoc, ← Nat.add_assoc, hp1, hp2, hp3]; exact hV)
      have HA : Hid (rdNum (bs.drop p) = A) := hA
      have HT : Hid (rdText (bs.drop p1) = T) := hT
      have HS : Hid (rdNum (bs.drop p2) = S) := hS
      have HV : Hid (rdText (bs.drop p3) = V) := hV
      clear hA hT hS hV
      obtain ⟨a1, a2⟩ := A
      obtain ⟨t1, t2⟩ := T
      obtain ⟨s1, s2⟩ := S
      obtain ⟨v1, v2⟩ := V
      simp only at lA lT lS lV hp1 hp2 hp3 hp4
      obtain ⟨lA1, lA2⟩ := lA
      obtain ⟨lT1, lT2⟩ := lT
      obtain ⟨lS1, lS2⟩ := lS
      obtain ⟨lV1, lV2⟩ := lV
      have i1 : (p : Int) + (a2 : Int) = (p1 : Int) := by omega
      have i2 : (p1 : Int) + (t2 : Int) = (p2 : Int) := by omega
      have i3 : (p2 : Int) + (s2 : Int) = (p3 : Int) := by omega
      have i4 : (p3 : Int) + (v2 : Int) = (p4 : Int) := by omega
      have u1 : p1 ≤ bs.length := by omega
      have u2 : p2 ≤ bs.length := by omega
      have u3 : p3 ≤ bs.length := by omega
      have u4 : p4 ≤ bs.length := by omega
      by_cases h8 : es.length % 8 = 0
      · have h8d : ((es.length : Int) % 8 == 0) = true := by simp; omega
        have HL : Hid (ahead es.length last = ⟨#[]⟩) := by unfold Hid ahead; rw [if_pos h8]
        have hLs : (⟨#[]⟩ : ByteArray).size ≤ 3000 * es.length := Nat.zero_le _
        have HPART : Hid (rdEnt false (⟨#[]⟩ : ByteArray) (bs.drop p) = rdParts false (⟨#[]⟩ : ByteArray) (a1, a2) (t1, t2) (s1, s2) (v1, v2)) := HPARTS.out (⟨#[]⟩ : ByteArray)
        have HNO : Hid (rdEnt false (⟨#[]⟩ : ByteArray) (bs.drop p) = none → res = none) := fun h => by rw [HR.out]; exact rdEs_no (by rw [HL.out]; exact h)
        have HGO : Hid (∀ y k, rdEnt false (⟨#[]⟩ : ByteArray) (bs.drop p) = some (y, k) → res = rdEs false bs m' (p + k) (es ++ [y]) y.key ∧ Fits y ∧ y.key.size ≤ 3000 * (es.length + 1)) := fun y k h => by
          refine ⟨by rw [HR.out]; exact rdEs_go (by rw [HL.out]; exact h), rdEnt_fits h (by omega), ?_⟩
          have := rdEnt_size h
          omega
        clear HPARTS HR HL
        by_cases k0 : cap = p
        · skip
          have z1 : (a1, a2) = (0, 0) := by rw [← HA.out, ← k0]; exact rdNum_end hl
          obtain ⟨rfl, rfl⟩ := Prod.mk.inj z1
          have RES : Hid (res = none) := HNO.out (by rw [HPART.out]; unfold rdParts; rw [if_pos (.inl rfl)])
          obtain rfl : p1 = p := by omega
          have HRE : Hid (∀ a, Rd wr (.slice a 0 0) (bs.drop p1)) := fun a => rd_end (by omega)
          subst k0
          clear z1 HNO HGO HPART
          go_wp2_with fail
          refine (specReadNumber_any _ (bs.drop cap) _ (HRE.out _)).mono ?_
          rw [HA.out]
          rintro e wz ⟨rfl, hwz⟩
          obtain rfl := hwz.symm
          go_wp2_with fail
          refine (specReadText_any _ (bs.drop cap) _ (HRE.out _)).mono ?_
          rw [HT.out]
          rintro e wz ⟨rfl, hwz⟩
          obtain rfl := hwz.symm
          go_wp2
          go_ret2
          exact unpPost_no (RES0.out RES.out) (ownE_new _) hs (hb.alloc hs _)
        go_wp2_with fail
        refine (specReadNumber_any _ (bs.drop p) _ (HRD.out p)).mono ?_
        rw [HA.out]
        rintro e wz ⟨rfl, hwz⟩
        obtain rfl := hwz.symm
        by_cases k1 : cap = p1
        · skip
          have q0 : a2 ≠ 0 := by omega
          have z1 : (t1, t2) = ([], 0) := by rw [← HT.out, ← k1]; exact rdText_end hl
          obtain ⟨rfl, rfl⟩ := Prod.mk.inj z1
          have RES : Hid (res = none) := HNO.out (by rw [HPART.out]; unfold rdParts; rw [if_pos (.inr (.inr rfl))])
          have HRE : Hid (∀ a, Rd wr (.slice a 0 0) (bs.drop p1)) := fun a => rd_end (by omega)
          have hz : ((a2 : Int) == 0) = false := by simp; omega
          subst k1
          clear z1 HNO HGO HPART q0
          go_wp2_with fail
          refine (specReadText_any _ (bs.drop cap) _ (HRE.out _)).mono ?_
          rw [HT.out]
          rintro e wz ⟨rfl, hwz⟩
          obtain rfl := hwz.symm
          go_wp2
          go_ret2
          exact unpPost_no (RES0.out RES.out) (ownE_new _) hs (hb.alloc hs _)
        go_wp2_with fail
        refine (specReadText_any _ (bs.drop p1) _ (HRD.out p1)).mono ?_
        rw [HT.out]
        rintro e wz ⟨rfl, hwz⟩
        obtain rfl := hwz.symm
        by_cases q0 : a2 = 0
        · skip
          have RES : Hid (res = none) := HNO.out (by rw [HPART.out]; unfold rdParts; rw [if_pos (.inl q0)])
          have hz : ((a2 : Int) == 0) = true := by simp; omega
          clear q0 HNO HGO HPART
          go_wp2
          go_ret2
          exact unpPost_no (RES0.out RES.out) (ownE_new _) hs (hb.alloc hs _)
        have hz : ((a2 : Int) == 0) = false := by simp; omega
        by_cases q1 : t2 = 0
        · skip
          have RES : Hid (res = none) := HNO.out (by rw [HPART.out]; unfold rdParts; rw [if_pos (.inr (.inr q1))])
          have hz2 : ((t2 : Int) == 0) = true := by simp; omega
          clear q0 q1 HNO HGO HPART
          go_wp2
          go_ret2
          exact unpPost_no (RES0.out RES.out) (ownE_new _) hs (hb.alloc hs _)
        have hz2 : ((t2 : Int) == 0) = false := by simp; omega
        by_cases q2 : (⟨#[]⟩ : ByteArray).size < a1
        · skip
          have RES : Hid (res = none) := HNO.out (by rw [HPART.out]; unfold rdParts; rw [if_pos (.inr (.inl q2))])
          have q2i : ((⟨#[]⟩ : ByteArray).size : Int) < (a1 : Int) := by omega
          clear q0 q1 HNO HGO HPART
          go_wp2
          go_ret2
          exact unpPost_no (RES0.out RES.out) (ownE_new _) hs (hb.alloc hs _)
        have HN1 : Hid (¬ (a2 = 0 ∨ (⟨#[]⟩ : ByteArray).size < a1 ∨ t2 = 0)) := by unfold Hid; omega
        clear q0 q1
        by_cases k2 : cap = p2
        · skip
          have z1 : (s1, s2) = (0, 0) := by rw [← HS.out, ← k2]; exact rdNum_end hl
          obtain ⟨rfl, rfl⟩ := Prod.mk.inj z1
          have RES : Hid (res = none) := HNO.out (by rw [HPART.out]; exact rdParts_no HN1.out (.inl rfl))
          obtain rfl : p3 = p2 := by omega
          have HRE : Hid (∀ a, Rd wr (.slice a 0 0) (bs.drop p3)) := fun a => rd_end (by omega)
          subst k2
          clear z1 HNO HGO HPART HN1
          go_wp2_with fail
          refine (specReadNumber_any _ (bs.drop cap) _ (HRE.out _)).mono ?_
          rw [HS.out]
          rintro e wz ⟨rfl, hwz⟩
          obtain rfl := hwz.symm
          go_wp2_with fail
          refine (specReadText_any _ (bs.drop cap) _ (HRE.out _)).mono ?_
          rw [HV.out]
          rintro e wz ⟨rfl, hwz⟩
          obtain rfl := hwz.symm
          go_wp2
          go_ret2
          exact unpPost_no (RES0.out RES.out) (ownE_new _) hs (hb.alloc hs _)
        go_wp2_with fail
        refine (specReadNumber_any _ (bs.drop p2) _ (HRD.out p2)).mono ?_
        rw [HS.out]
        rintro e wz ⟨rfl, hwz⟩
        obtain rfl := hwz.symm
        by_cases k3 : cap = p3
        · skip
          have q3 : s2 ≠ 0 := by omega
          have z1 : (v1, v2) = ([], 0) := by rw [← HV.out, ← k3]; exact rdText_end hl
          obtain ⟨rfl, rfl⟩ := Prod.mk.inj z1
          have RES : Hid (res = none) := HNO.out (by rw [HPART.out]; exact rdParts_no HN1.out (.inr rfl))
          have HRE : Hid (∀ a, Rd wr (.slice a 0 0) (bs.drop p3)) := fun a => rd_end (by omega)
          have hz3 : ((s2 : Int) == 0) = false := by simp; omega
          subst k3
          clear z1 HNO HGO HPART q3 HN1
          go_wp2_with fail
          refine (specReadText_any _ (bs.drop cap) _ (HRE.out _)).mono ?_
          rw [HV.out]
          rintro e wz ⟨rfl, hwz⟩
          obtain rfl := hwz.symm
          go_wp2
          go_ret2
          exact unpPost_no (RES0.out RES.out) (ownE_new _) hs (hb.alloc hs _)
        go_wp2_with fail
        refine (specReadText_any _ (bs.drop p3) _ (HRD.out p3)).mono ?_
        rw [HV.out]
        rintro e wz ⟨rfl, hwz⟩
        obtain rfl := hwz.symm
        by_cases q3 : s2 = 0
        · skip
          have RES : Hid (res = none) := HNO.out (by rw [HPART.out]; exact rdParts_no HN1.out (.inl q3))
          have hz3 : ((s2 : Int) == 0) = true := by simp; omega
          clear q3 HNO HGO HPART HN1
          go_wp2
          go_ret2
          exact unpPost_no (RES0.out RES.out) (ownE_new _) hs (hb.alloc hs _)
        have hz3 : ((s2 : Int) == 0) = false := by simp; omega
        by_cases q4 : v2 = 0
        · skip
          have RES : Hid (res = none) := HNO.out (by rw [HPART.out]; exact rdParts_no HN1.out (.inr q4))
          have hz4 : ((v2 : Int) == 0) = true := by simp; omega
          clear q3 q4 HNO HGO HPART HN1
          go_wp2
          go_ret2
          exact unpPost_no (RES0.out RES.out) (ownE_new _) hs (hb.alloc hs _)
        have hz4 : ((v2 : Int) == 0) = false := by simp; omega
        obtain ⟨key, hk⟩ : ∃ key : ByteArray, key = ⟨((⟨#[]⟩ : ByteArray).data.toList.take a1 ++ t1).toArray⟩ := ⟨_, rfl⟩
        have hkc := key_cut (⟨#[]⟩ : ByteArray) a1 t1
        rw [← hk] at hkc
        have HKC : Hid ((⟨#[]⟩ : ByteArray).extract 0 a1 ++ ⟨t1.toArray⟩ = key) := hkc
        have HP : Hid (rdEnt false (⟨#[]⟩ : ByteArray) (bs.drop p) = some (⟨key, ⟨v1.toArray⟩, ((s1 / 2 : Nat) : Int), decide (s1 % 2 = 1)⟩, a2 + t2 + s2 + v2)) := by
          unfold Hid; rw [HPART.out, hk]; exact rdParts_free HN1.out (by omega)
        obtain ⟨hg1, hg2, hg3⟩ := HGO.out _ _ HP.out
        obtain ⟨x, hx⟩ : ∃ x : Ent, x = ⟨key, ⟨v1.toArray⟩, ((s1 / 2 : Nat) : Int), decide (s1 % 2 = 1)⟩ := ⟨_, rfl⟩
        have hxk : x.key = key := by rw [hx]
        rw [← hx] at hg1 hg2 hg3
        have HX : Hid (x = ⟨key, ⟨v1.toArray⟩, ((s1 / 2 : Nat) : Int), decide (s1 % 2 = 1)⟩) := hx
        have HG1 : Hid (res = rdEs false bs m' p4 (es ++ [x]) x.key) := by unfold Hid; rw [hg1]; congr 1; omega
        have HF4 : Hid (∀ z ∈ es ++ [x], Fits z) := fits_app HFIT.out hg2
        have HE1 : Hid ((s1 : Int) / 2 = ((s1 / 2 : Nat) : Int)) := by unfold Hid; omega
        have HE2 : Hid (((s1 : Int) % 2 == 1) = decide (s1 % 2 = 1)) := odd_eq s1
        have hx5 := entAt_new wr x 71
        have ho5 := ho.below (below1 _ (.cells #[.string x.key, .string x.val, .int .i64 x.seq, .bool x.gone] 71))
        have hb5 := hb.alloc hs (.cells #[.string x.key, .string x.val, .int .i64 x.seq, .bool x.gone] 71)
        have hs5 : w.heap.size ≤ (wr.alloc (.cells #[.string x.key, .string x.val, .int .i64 x.seq, .bool x.gone] 71)).heap.size := hb5.size
        have HXB : Hid (wr.alloc (.cells #[.string x.key, .string x.val, .int .i64 x.seq, .bool x.gone] 71) = wr.alloc (.cells #[.string ((⟨#[]⟩ : ByteArray).extract 0 a1 ++ ⟨t1.toArray⟩), .string ⟨v1.toArray⟩, .int .i64 ((s1 : Int) / 2), .bool ((s1 : Int) % 2 == 1)] 71)) := by unfold Hid; rw [hx, HKC.out, HE1.out, HE2.out]
        rw [HXB.out] at hx5 ho5 hb5 hs5
        have HKX : Hid ((⟨#[]⟩ : ByteArray).extract 0 a1 ++ ⟨t1.toArray⟩ = x.key) := by unfold Hid; rw [HKC.out, hxk]
        clear hk hkc hx q3 q4 HNO HGO HPART HN1 HP hg1 hg2 HRD ho hxk
        go_wp2_with (at_builtin; (refine wpList_append_ents rfl _ _ rfl w.heap.size _ _ es [x] rfl rfl ho5 (rdE_oneK hx5) (by simp; omega) hs5 ?_))
        intro v6 w6 ho6 hg6
        have hb6 := hb5.grown hg6 hs5 (fun j hj => (World.ownsRow.lt ho5 j hj).1)
        clear ho5 hx5 hb5 hg6
        go_wp2
        go_roundw
        case rel => exact ⟨m', p4, es ++ [x], x.key, by go_num, by go_num, by rw [HKX.out], by simp; omega, u4, by simp; omega, ho6, hb6, HF4, HG1⟩
        case measure => simp [intOf]
      · have h8d : ((es.length : Int) % 8 == 0) = false := by simp; omega
        have HL : Hid (ahead es.length last = last) := by unfold Hid ahead; rw [if_neg h8]
        have hLs : last.size ≤ 3000 * es.length := hls
        have HPART : Hid (rdEnt false last (bs.drop p) = rdParts false last (a1, a2) (t1, t2) (s1, s2) (v1, v2)) := HPARTS.out last
        have HNO : Hid (rdEnt false last (bs.drop p) = none → res = none) := fun h => by rw [HR.out]; exact rdEs_no (by rw [HL.out]; exact h)
        have HGO : Hid (∀ y k, rdEnt false last (bs.drop p) = some (y, k) → res = rdEs false bs m' (p + k) (es ++ [y]) y.key ∧ Fits y ∧ y.key.size ≤ 3000 * (es.length + 1)) := fun y k h => by
          refine ⟨by rw [HR.out]; exact rdEs_go (by rw [HL.out]; exact h), rdEnt_fits h (by omega), ?_⟩
          have := rdEnt_size h
          omega
        clear HPARTS HR HL
        by_cases k0 : cap = p
        · skip
          have z1 : (a1, a2) = (0, 0) := by rw [← HA.out, ← k0]; exact rdNum_end hl
          obtain ⟨rfl, rfl⟩ := Prod.mk.inj z1
          have RES : Hid (res = none) := HNO.out (by rw [HPART.out]; unfold rdParts; rw [if_pos (.inl rfl)])
          obtain rfl : p1 = p := by omega
          have HRE : Hid (∀ a, Rd wr (.slice a 0 0) (bs.drop p1)) := fun a => rd_end (by omega)
          subst k0
          clear z1 HNO HGO HPART
          go_wp2_with fail
          refine (specReadNumber_any _ (bs.drop cap) _ (HRE.out _)).mono ?_
          rw [HA.out]
          rintro e wz ⟨rfl, hwz⟩
          obtain rfl := hwz.symm
          go_wp2_with fail
          refine (specReadText_any _ (bs.drop cap) _ (HRE.out _)).mono ?_
          rw [HT.out]
          rintro e wz ⟨rfl, hwz⟩
          obtain rfl := hwz.symm
          go_wp2
          go_ret2
          exact unpPost_no (RES0.out RES.out) (ownE_new _) hs (hb.alloc hs _)
        go_wp2_with fail
        refine (specReadNumber_any _ (bs.drop p) _ (HRD.out p)).mono ?_
        rw [HA.out]
        rintro e wz ⟨rfl, hwz⟩
        obtain rfl := hwz.symm
        by_cases k1 : cap = p1
        · skip
          have q0 : a2 ≠ 0 := by omega
          have z1 : (t1, t2) = ([], 0) := by rw [← HT.out, ← k1]; exact rdText_end hl
          obtain ⟨rfl, rfl⟩ := Prod.mk.inj z1
          have RES : Hid (res = none) := HNO.out (by rw [HPART.out]; unfold rdParts; rw [if_pos (.inr (.inr rfl))])
          have HRE : Hid (∀ a, Rd wr (.slice a 0 0) (bs.drop p1)) := fun a => rd_end (by omega)
          have hz : ((a2 : Int) == 0) = false := by simp; omega
          subst k1
          clear z1 HNO HGO HPART q0
          go_wp2_with fail
          refine (specReadText_any _ (bs.drop cap) _ (HRE.out _)).mono ?_
          rw [HT.out]
          rintro e wz ⟨rfl, hwz⟩
          obtain rfl := hwz.symm
          go_wp2
          go_ret2
          exact unpPost_no (RES0.out RES.out) (ownE_new _) hs (hb.alloc hs _)
        go_wp2_with fail
        refine (specReadText_any _ (bs.drop p1) _ (HRD.out p1)).mono ?_
        rw [HT.out]
        rintro e wz ⟨rfl, hwz⟩
        obtain rfl := hwz.symm
        by_cases q0 : a2 = 0
        · skip
          have RES : Hid (res = none) := HNO.out (by rw [HPART.out]; unfold rdParts; rw [if_pos (.inl q0)])
          have hz : ((a2 : Int) == 0) = true := by simp; omega
          clear q0 HNO HGO HPART
          go_wp2
          go_ret2
          exact unpPost_no (RES0.out RES.out) (ownE_new _) hs (hb.alloc hs _)
        have hz : ((a2 : Int) == 0) = false := by simp; omega
        by_cases q1 : t2 = 0
        · skip
          have RES : Hid (res = none) := HNO.out (by rw [HPART.out]; unfold rdParts; rw [if_pos (.inr (.inr q1))])
          have hz2 : ((t2 : Int) == 0) = true := by simp; omega
          clear q0 q1 HNO HGO HPART
          go_wp2
          go_ret2
          exact unpPost_no (RES0.out RES.out) (ownE_new _) hs (hb.alloc hs _)
        have hz2 : ((t2 : Int) == 0) = false := by simp; omega
        by_cases q2 : last.size < a1
        · skip
          have RES : Hid (res = none) := HNO.out (by rw [HPART.out]; unfold rdParts; rw [if_pos (.inr (.inl q2))])
          have q2i : (last.size : Int) < (a1 : Int) := by omega
          clear q0 q1 HNO HGO HPART
          go_wp2
          go_ret2
          exact unpPost_no (RES0.out RES.out) (ownE_new _) hs (hb.alloc hs _)
        have HN1 : Hid (¬ (a2 = 0 ∨ last.size < a1 ∨ t2 = 0)) := by unfold Hid; omega
        clear q0 q1
        by_cases k2 : cap = p2
        · skip
          have z1 : (s1, s2) = (0, 0) := by rw [← HS.out, ← k2]; exact rdNum_end hl
          obtain ⟨rfl, rfl⟩ := Prod.mk.inj z1
          have RES : Hid (res = none) := HNO.out (by rw [HPART.out]; exact rdParts_no HN1.out (.inl rfl))
          obtain rfl : p3 = p2 := by omega
          have HRE : Hid (∀ a, Rd wr (.slice a 0 0) (bs.drop p3)) := fun a => rd_end (by omega)
          subst k2
          clear z1 HNO HGO HPART HN1
          go_wp2_with fail
          refine (specReadNumber_any _ (bs.drop cap) _ (HRE.out _)).mono ?_
          rw [HS.out]
          rintro e wz ⟨rfl, hwz⟩
          obtain rfl := hwz.symm
          go_wp2_with fail
          refine (specReadText_any _ (bs.drop cap) _ (HRE.out _)).mono ?_
          rw [HV.out]
          rintro e wz ⟨rfl, hwz⟩
          obtain rfl := hwz.symm
          go_wp2
          go_ret2
          exact unpPost_no (RES0.out RES.out) (ownE_new _) hs (hb.alloc hs _)
        go_wp2_with fail
        refine (specReadNumber_any _ (bs.drop p2) _ (HRD.out p2)).mono ?_
        rw [HS.out]
        rintro e wz ⟨rfl, hwz⟩
        obtain rfl := hwz.symm
        by_cases k3 : cap = p3
        · skip
          have q3 : s2 ≠ 0 := by omega
          have z1 : (v1, v2) = ([], 0) := by rw [← HV.out, ← k3]; exact rdText_end hl
          obtain ⟨rfl, rfl⟩ := Prod.mk.inj z1
          have RES : Hid (res = none) := HNO.out (by rw [HPART.out]; exact rdParts_no HN1.out (.inr rfl))
          have HRE : Hid (∀ a, Rd wr (.slice a 0 0) (bs.drop p3)) := fun a => rd_end (by omega)
          have hz3 : ((s2 : Int) == 0) = false := by simp; omega
          subst k3
          clear z1 HNO HGO HPART q3 HN1
          go_wp2_with fail
          refine (specReadText_any _ (bs.drop cap) _ (HRE.out _)).mono ?_
          rw [HV.out]
          rintro e wz ⟨rfl, hwz⟩
          obtain rfl := hwz.symm
          go_wp2
          go_ret2
          exact unpPost_no (RES0.out RES.out) (ownE_new _) hs (hb.alloc hs _)
        go_wp2_with fail
        refine (specReadText_any _ (bs.drop p3) _ (HRD.out p3)).mono ?_
        rw [HV.out]
        rintro e wz ⟨rfl, hwz⟩
        obtain rfl := hwz.symm
        by_cases q3 : s2 = 0
        · skip
          have RES : Hid (res = none) := HNO.out (by rw [HPART.out]; exact rdParts_no HN1.out (.inl q3))
          have hz3 : ((s2 : Int) == 0) = true := by simp; omega
          clear q3 HNO HGO HPART HN1
          go_wp2
          go_ret2
          exact unpPost_no (RES0.out RES.out) (ownE_new _) hs (hb.alloc hs _)
        have hz3 : ((s2 : Int) == 0) = false := by simp; omega
        by_cases q4 : v2 = 0
        · skip
          have RES : Hid (res = none) := HNO.out (by rw [HPART.out]; exact rdParts_no HN1.out (.inr q4))
          have hz4 : ((v2 : Int) == 0) = true := by simp; omega
          clear q3 q4 HNO HGO HPART HN1
          go_wp2
          go_ret2
          exact unpPost_no (RES0.out RES.out) (ownE_new _) hs (hb.alloc hs _)
        have hz4 : ((v2 : Int) == 0) = false := by simp; omega
        obtain ⟨key, hk⟩ : ∃ key : ByteArray, key = ⟨(last.data.toList.take a1 ++ t1).toArray⟩ := ⟨_, rfl⟩
        have hkc := key_cut last a1 t1
        rw [← hk] at hkc
        have HKC : Hid (last.extract 0 a1 ++ ⟨t1.toArray⟩ = key) := hkc
        have HP : Hid (rdEnt false last (bs.drop p) = some (⟨key, ⟨v1.toArray⟩, ((s1 / 2 : Nat) : Int), decide (s1 % 2 = 1)⟩, a2 + t2 + s2 + v2)) := by
          unfold Hid; rw [HPART.out, hk]; exact rdParts_free HN1.out (by omega)
        obtain ⟨hg1, hg2, hg3⟩ := HGO.out _ _ HP.out
        obtain ⟨x, hx⟩ : ∃ x : Ent, x = ⟨key, ⟨v1.toArray⟩, ((s1 / 2 : Nat) : Int), decide (s1 % 2 = 1)⟩ := ⟨_, rfl⟩
        have hxk : x.key = key := by rw [hx]
        rw [← hx] at hg1 hg2 hg3
        have HX : Hid (x = ⟨key, ⟨v1.toArray⟩, ((s1 / 2 : Nat) : Int), decide (s1 % 2 = 1)⟩) := hx
        have HG1 : Hid (res = rdEs false bs m' p4 (es ++ [x]) x.key) := by unfold Hid; rw [hg1]; congr 1; omega
        have HF4 : Hid (∀ z ∈ es ++ [x], Fits z) := fits_app HFIT.out hg2
        have HE1 : Hid ((s1 : Int) / 2 = ((s1 / 2 : Nat) : Int)) := by unfold Hid; omega
        have HE2 : Hid (((s1 : Int) % 2 == 1) = decide (s1 % 2 = 1)) := odd_eq s1
        have hx5 := entAt_new wr x 71
        have ho5 := ho.below (below1 _ (.cells #[.string x.key, .string x.val, .int .i64 x.seq, .bool x.gone] 71))
        have hb5 := hb.alloc hs (.cells #[.string x.key, .string x.val, .int .i64 x.seq, .bool x.gone] 71)
        have hs5 : w.heap.size ≤ (wr.alloc (.cells #[.string x.key, .string x.val, .int .i64 x.seq, .bool x.gone] 71)).heap.size := hb5.size
        have HXB : Hid (wr.alloc (.cells #[.string x.key, .string x.val, .int .i64 x.seq, .bool x.gone] 71) = wr.alloc (.cells #[.string (last.extract 0 a1 ++ ⟨t1.toArray⟩), .string ⟨v1.toArray⟩, .int .i64 ((s1 : Int) / 2), .bool ((s1 : Int) % 2 == 1)] 71)) := by unfold Hid; rw [hx, HKC.out, HE1.out, HE2.out]
        rw [HXB.out] at hx5 ho5 hb5 hs5
        have HKX : Hid (last.extract 0 a1 ++ ⟨t1.toArray⟩ = x.key) := by unfold Hid; rw [HKC.out, hxk]
        clear hk hkc hx q3 q4 HNO HGO HPART HN1 HP hg1 hg2 HRD ho hxk
        go_wp2_with (at_builtin; (refine wpList_append_ents rfl _ _ rfl w.heap.size _ _ es [x] rfl rfl ho5 (rdE_oneK hx5) (by simp; omega) hs5 ?_))
        intro v6 w6 ho6 hg6
        have hb6 := hb5.grown hg6 hs5 (fun j hj => (World.ownsRow.lt ho5 j hj).1)
        clear ho5 hx5 hb5 hg6
        go_wp2
        go_roundw
        case rel => exact ⟨m', p4, es ++ [x], x.key, by go_num, by go_num, by rw [HKX.out], by simp; omega, u4, by simp; omega, ho6, hb6, HF4, HG1⟩
        case measure => simp [intOf]
    · have hm0 : m = 0 := by omega
      subst hm0
      have FIN : Hid (F = if packL es = bs then (es, true) else ([], false)) := RES1.out es p HR.out
      have hrd := HRD0.out.below hb
      obtain ⟨sd, hsd⟩ : ∃ sd : ByteArray, sd = ⟨bs.toArray⟩ := ⟨_, rfl⟩
      obtain ⟨sp, hsp⟩ : ∃ sp : ByteArray, sp = ⟨(packL es).toArray⟩ := ⟨_, rfl⟩
      have HCD : Hid (∀ W, Rd W (.slice (some ⟨b, off, none⟩) bs.length cap) bs → (convert 22 9 (.slice (some ⟨b, off, none⟩) bs.length cap)).run Tryz.prog W = .ok (.string sd) W) := fun W h => by rw [hsd]; exact conv_rd h
      have HCP : Hid (∀ W B u, Own W B u (packL es) → (convert 22 9 u).run Tryz.prog W = .ok (.string sp) W) := fun W B u h => by rw [hsp]; exact conv_own h
      have HEQ : sp.toList = sd.toList ↔ packL es = bs := by
        rw [hsd, hsp, ByteArray.toList_eq, ByteArray.toList_eq]
      clear hsd hsp
      have hcd := HCD.out wr.drew (show Rd wr.drew _ bs from hrd.drewN 1)
      go_wp2_with fail
      refine wp_region_noPanic ?_
      refine wp_region_held_drew (S := fun w' => (convert 22 9 (.slice (some ⟨b, off, none⟩) bs.length cap)).run Tryz.prog w' = .ok (.string sd) w') (by kernel_rfl) hcd (fun hH => ?_)
      have qo : OwnE wr.drew _ _ es := ho.drewN 1
      have qb := hb.drew
      have qr : Rd wr.drew _ bs := hrd.drewN 1
      clear ho hb hrd hcd hs
      revert hH qo qb qr
      generalize wr.drew = W0
      intro hH qo qb qr
      refine tkA 0 115 hH ?_; try simp only [Act.put, sA, sZ, sS]
      refine tkA 3 118 hH ?_; try simp only [Act.put, sA, sZ, sS]
      refine tkA 4 119 hH ?_; try simp only [Act.put, sA, sZ, sS]
      refine wpAnyH_ready (rs := [1]) (by kernel_rfl) (by simp) ?_
      refine AllReadyH.cons rfl (fun K hK => ?_) AllReadyH.nil
      go_simp
      refine (specPacked_any _ es _ qo.rd HFIT.out).mono ?_
      rintro e w3 ⟨u3, rfl, ho3, hb3⟩
      replace qb := qb.trans (hb3.mono qb.size)
      replace qo := qo.below hb3
      replace qr := qr.below hb3
      refine hK.out _ _ (HCD.out _ qr) (fun hI => ?_)
      clear hK K
      try simp only [Act.put, sA, sZ, sS]
      have hJ : (fun w' => (convert 22 9 u3).run Tryz.prog w' = .ok (.string sp) w' ∧ (convert 22 9 (.slice (some ⟨b, off, none⟩) bs.length cap)).run Tryz.prog w' = .ok (.string sd) w') w3 := ⟨HCP.out _ _ _ ho3, hI⟩
      refine wpAnyH_moreR (S' := fun w' => (convert 22 9 u3).run Tryz.prog w' = .ok (.string sp) w' ∧ (convert 22 9 (.slice (some ⟨b, off, none⟩) bs.length cap)).run Tryz.prog w' = .ok (.string sd) w') (fun _ h => h.2) _ _ _ _ ?_
      refine tkA 2 117 hJ ?_; try simp only [Act.put, sA, sZ, sS]
      by_cases hq : packL es = bs
      · skip
        have hq2 : sp.toList = sd.toList := HEQ.2 hq
        have RES : Hid (F = (es, true)) := by unfold Hid; rw [FIN.out, if_pos hq]
        clear HEQ hq FIN
        refine tkA 5 120 hJ ?_; try simp only [Act.put, sA, sZ, sS]
        refine wpAnyH_done (by kernel_rfl) ?_ _
        refine NoPanic.normal ?_
        go_wp2
        go_ret2
        exact unpPost_yes RES.out qo (Nat.le_refl _) qb
      · skip
        have hq2 : ¬ sp.toList = sd.toList := fun h => hq (HEQ.1 h)
        have hq3 : (!sp.toList == sd.toList) = true := by simpa using hq2
        clear hq2
        have RES : Hid (F = ([], false)) := by unfold Hid; rw [FIN.out, if_neg hq]
        clear HEQ hq FIN
        refine tkA 5 120 hJ ?_; try simp only [Act.put, sA, sZ, sS]
        refine wpAnyH_done (by kernel_rfl) ?_ _
        refine NoPanic.normal ?_
        go_wp2
        go_ret2
        exact unpPost_no RES.out (ownE_new _) qb.size (qb.alloc qb.size _)
end Go.Proofs.YtpbbahpndgigjaaGreatDoor
