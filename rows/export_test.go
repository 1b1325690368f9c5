package rows

import "alidade/api"

// Refused is what Of refuses atoms for. Of as many atoms as there may be no test asks Of itself: the sets of so many first rows are 2^36 bytes.
func Refused(l []api.Atom) api.Errno { return refused(l) }
