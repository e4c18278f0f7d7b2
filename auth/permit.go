package auth

import "dunnage/api"

// permissions tells for each role which kinds of requests it permits.
var permissions = [api.RoleOwn + 1][api.KindRevoke + 1]bool{
	api.RoleView: {
		api.KindQuery: true, api.KindWatch: true, api.KindLog: true,
	},
	api.RoleTrade: {
		api.KindQuery: true, api.KindWatch: true, api.KindLog: true,
		api.KindSubmit: true, api.KindCancel: true,
	},
	api.RoleOwn: {
		api.KindQuery: true, api.KindWatch: true, api.KindLog: true,
		api.KindSubmit: true, api.KindCancel: true,
		api.KindRevoke: true,
	},
}

// Permits reports whether a role permits a kind of requests.
func Permits(role, kind uint8) bool {
	return isRole(role) && isRequest(kind) && permissions[role][kind]
}

// Authorize returns an error unless a token authorizes a request.
func Authorize(l []api.Minted, key []byte, tenant int, t api.Token, kind uint8, now uint64) api.Errno {
	if e := Check(l); e != api.OK {
		return e
	}
	if !isTenant(tenant) || !isRequest(kind) || now > api.MaxTick || !isKey(key) {
		return api.ErrArg
	}
	m, found := entry(l, t.Serial)
	return firstBroken([]condition{
		{api.ErrTag, func() bool {
			is, e := Genuine(key, t)
			return is && e == api.OK
		}},
		{api.ErrTenant, func() bool { return int(t.Tenant) == tenant }},
		{api.ErrSerial, func() bool { return found && withoutTag(t) == unsigned(tenant, t.Serial, m) }},
		{api.ErrRevoked, func() bool { return !m.Revoked }},
		{api.ErrExpired, func() bool { return !expired(m, now) }},
		{api.ErrRole, func() bool { return Permits(m.Role, kind) }},
	})
}

// condition is what has to hold for a token, and the error if it does not.
type condition struct {
	e     api.Errno
	holds func() bool
}

// firstBroken returns the error of the first condition that does not hold. Later ones are not called: they may rely on earlier ones.
func firstBroken(conditions []condition) api.Errno {
	for _, c := range conditions {
		if !c.holds() {
			return c.e
		}
	}
	return api.OK
}

// withoutTag returns a token without its tag.
func withoutTag(t api.Token) api.Token {
	t.Tag = [32]byte{}
	return t
}

// isRequest reports whether a number is one of a kind of requests.
func isRequest(kind uint8) bool { return kind >= api.KindSubmit && kind <= api.KindRevoke }
